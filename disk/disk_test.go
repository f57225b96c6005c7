package disk

import (
	"fmt"
	"slices"
	"strings"
	"testing"
	"unsafe"

	"gossamer/api"
)

// check holds all that is told of a disk against what is wanted.
func check(t *testing.T, d someDisk, want string) {
	t.Helper()
	if got := tell(d); got != want {
		t.Errorf("%s; want %s", got, want)
	}
}

// checkErr holds an error against what is wanted.
func checkErr(t *testing.T, what any, err, want api.Errno) {
	t.Helper()
	if err != want {
		t.Errorf("%v tells %d; want %d", what, err, want)
	}
}

// done does an act that is wanted to tell no error.
func done(t *testing.T, d *Disk, l ...act) {
	t.Helper()
	for _, a := range l {
		checkErr(t, a, a.on(d), api.OK)
	}
}

// withFiles is a disk with a file of each of those texts, by a name of one letter, from a on: what stands ahead of | is sure, what stands behind it isn't.
func withFiles(t *testing.T, room int, texts ...string) *Disk {
	t.Helper()
	d := New(room)
	for k, text := range texts {
		name := string(rune('a' + k))
		sure, unsure, _ := strings.Cut(text, "|")
		checkErr(t, text, d.Append(name, sure), api.OK)
		checkErr(t, text, d.Sync(name), api.OK)
		checkErr(t, text, d.Append(name, unsure), api.OK)
	}
	return d
}

// full is a disk that has as many files as may be, f0 to f63, with a byte each, and room for so many more.
func full(t *testing.T, more int) *Disk {
	t.Helper()
	d := New(64 + more)
	for k := range 64 {
		checkErr(t, k, d.Append(fmt.Sprintf("f%d", k), "x"), api.OK)
	}
	return d
}

// Dk1: a new disk is up, without a file, an operation or a byte.
func TestNew(t *testing.T) {
	for _, room := range []int{api.MinInt, -1, 0, 1, 1000, api.MaxInt} {
		d := New(room)
		check(t, d, "up 0 0")
		for _, name := range []string{"", "a", "A"} {
			if s, err := d.Read(name); s != "" || err != api.ErrNone || d.Sure(name) != 0 {
				t.Errorf("%q: %q, %d, %d", name, s, err, d.Sure(name))
			}
		}
		if err := d.Append("a", ""); err != api.OK {
			t.Errorf("room %d: %d", room, err)
		}
		check(t, d, "up 1 0 a:|")
	}
	if a, b := New(5), New(5); a == b {
		t.Error("two disks are one")
	}
}

// Dk1, Dk2: room of none, of below none, of just what is appended, and of a byte less.
func TestRoom(t *testing.T) {
	for _, x := range []struct {
		room int
		l    []string
		err  api.Errno // of the last one
	}{
		{0, []string{""}, api.OK},
		{0, []string{"x"}, api.ErrFull},
		{-1, []string{""}, api.OK},
		{-1, []string{"x"}, api.ErrFull},
		{api.MinInt, []string{"x"}, api.ErrFull},
		{1, []string{"x"}, api.OK},
		{1, []string{"xy"}, api.ErrFull},
		{1, []string{"x", "", "y"}, api.ErrFull},
		{8, []string{"12345678"}, api.OK},
		{7, []string{"12345678"}, api.ErrFull},
		{8, []string{"123", "45", "678"}, api.OK},
		{7, []string{"123", "45", "678"}, api.ErrFull},
		{api.MaxInt, []string{"123", "45", "678"}, api.OK},
	} {
		for _, names := range [][]string{{"a", "a", "a"}, {"a", "b", "c"}} {
			d := New(x.room)
			used := 0
			for k, s := range x.l {
				want, ahead := api.OK, tell(d)
				if k == len(x.l)-1 {
					want = x.err
				}
				checkErr(t, x, d.Append(names[k], s), want)
				if want != api.OK {
					check(t, d, ahead)
					continue
				}
				used += len(s)
			}
			if d.Used() != used {
				t.Errorf("%v: %d bytes; want %d", x, d.Used(), used)
			}
		}
	}
}

// Dk2: what is taken away, or cut off, or lost, leaves room again; and what is refused takes none.
func TestRoomAgain(t *testing.T) {
	d := withFiles(t, 10, "1234|", "56|789")
	checkErr(t, "too much", d.Append("b", "xy"), api.ErrFull)
	done(t, d, act{what: "append", name: "b", s: "0"})
	checkErr(t, "full", d.Append("c", "x"), api.ErrFull)
	done(t, d, act{what: "cut", name: "a", n: 2})
	checkErr(t, "too much", d.Append("c", "xyz"), api.ErrFull)
	done(t, d, act{what: "append", name: "c", s: "xy"})
	done(t, d, act{what: "rename", name: "c", to: "a"})
	checkErr(t, "too much", d.Append("c", "xyz"), api.ErrFull)
	done(t, d, act{what: "append", name: "c", s: "uv"})
	done(t, d, act{what: "remove", name: "a"})
	checkErr(t, "too much", d.Append("c", "xyz"), api.ErrFull)
	d.Crash()
	d.Up(1)
	check(t, d, "up 12 3 b:567| c:|")
	checkErr(t, "too much", d.Append("c", "12345678"), api.ErrFull)
	done(t, d, act{what: "append", name: "c", s: "1234567"})
	check(t, d, "up 13 10 b:567| c:|1234567")
}

// namesThatMayBe are names at the edges of what may be: each letter, alone, first, last and between, and the lengths.
func namesThatMayBe() []string {
	l := []string{"log.7", "image.12", "main.new", "a-b", ".", "-", "..", "--", strings.Repeat("a", 23), strings.Repeat("9", 24), strings.Repeat(".", 24), strings.Repeat("-", 24)}
	for _, c := range "abcdefghijklmnopqrstuvwxyz0123456789.-" {
		l = append(l, string(c), "m"+string(c), string(c)+"m", "m"+string(c)+"m", strings.Repeat(string(c), 24))
	}
	return l
}

// namesThatMayNotBe are all others of one byte, alone and beside letters that may be, those of letters of several bytes, of bytes that are no letter, and those that are too long.
func namesThatMayNotBe() []string {
	l := []string{"", strings.Repeat("a", 25), strings.Repeat("a", 26), strings.Repeat("a", 1000), strings.Repeat("ä", 12), strings.Repeat("ä", 13), "log 7", "Main", "ａ", "é", "e\u0301", "٣", "\u2010", "·", "\U0001d41a", "\ufffd", "\xc3", "\xc3\x28", "\xed\xa0\x80", "a\xf0\x9f", "\xff\xfe"}
	for b := range 256 {
		c := string([]byte{byte(b)})
		if !strings.Contains("abcdefghijklmnopqrstuvwxyz0123456789.-", c) {
			l = append(l, c, "m"+c, c+"m", "m"+c+"m", strings.Repeat("m", 23)+c)
		}
	}
	return l
}

// Dk2: which names an Append and a Rename take.
func TestNamesThatMayBe(t *testing.T) {
	for _, name := range namesThatMayBe() {
		d := New(100)
		done(t, d, act{what: "append", name: name, s: "xy"})
		check(t, d, "up 1 2 "+name+":|xy")
		d = New(100)
		done(t, d, act{what: "append", name: "q", s: "xy"}, act{what: "rename", name: "q", to: name}, act{what: "sync", name: name}, act{what: "cut", name: name, n: 1})
		check(t, d, "up 4 1 "+name+":x|")
		done(t, d, act{what: "remove", name: name})
		check(t, d, "up 5 0")
	}
}

// Dk2: which names no Append and no Rename takes; of all others there is no file.
func TestNamesThatMayNotBe(t *testing.T) {
	for _, name := range namesThatMayNotBe() {
		d := withFiles(t, 100, "1|2")
		ahead := tell(d)
		checkErr(t, name, d.Append(name, "x"), api.ErrArg)
		checkErr(t, name, d.Append(name, ""), api.ErrArg)
		checkErr(t, name, d.Rename("a", name), api.ErrArg)
		for _, a := range operations(name)[1:] {
			checkErr(t, a, a.on(d), api.ErrNone)
		}
		if s, err := d.Read(name); s != "" || err != api.ErrNone || d.Sure(name) != 0 {
			t.Errorf("%q: %q, %d, %d", name, s, err, d.Sure(name))
		}
		check(t, d, ahead)
	}
}

// Dk1, Dk2: where several errors would be, which one is told, up and not up; nothing is changed by it, and no fuse is taken.
func TestWhichError(t *testing.T) {
	long := strings.Repeat("x", 9)
	for _, x := range []struct {
		act
		err api.Errno
	}{
		{act{what: "append", name: "C", s: long}, api.ErrArg},
		{act{what: "append", name: "", s: long}, api.ErrArg},
		{act{what: "append", name: strings.Repeat("c", 25), s: long}, api.ErrArg},
		{act{what: "append", name: "c", s: long}, api.ErrFull},
		{act{what: "append", name: "a", s: long}, api.ErrFull},
		{act{what: "sync", name: "c"}, api.ErrNone},
		{act{what: "sync", name: "C"}, api.ErrNone},
		{act{what: "rename", name: "c", to: "d"}, api.ErrNone},
		{act{what: "rename", name: "c", to: "D"}, api.ErrNone},
		{act{what: "rename", name: "C", to: "D"}, api.ErrNone},
		{act{what: "rename", name: "C", to: "C"}, api.ErrNone},
		{act{what: "rename", name: "c", to: "c"}, api.ErrNone},
		{act{what: "rename", name: "a", to: "D"}, api.ErrArg},
		{act{what: "rename", name: "a", to: ""}, api.ErrArg},
		{act{what: "remove", name: "c"}, api.ErrNone},
		{act{what: "remove", name: ""}, api.ErrNone},
		{act{what: "cut", name: "c", n: 0}, api.ErrNone},
		{act{what: "cut", name: "c", n: 1}, api.ErrNone},
		{act{what: "cut", name: "c", n: -1}, api.ErrNone},
		{act{what: "cut", name: "C", n: api.MaxInt}, api.ErrNone},
		{act{what: "cut", name: "a", n: -1}, api.ErrRange},
		{act{what: "cut", name: "a", n: 5}, api.ErrRange},
		{act{what: "cut", name: "a", n: api.MaxInt}, api.ErrRange},
		{act{what: "cut", name: "a", n: api.MinInt}, api.ErrRange},
		{act{what: "read", name: "c"}, api.ErrNone},
		{act{what: "read", name: "C"}, api.ErrNone},
	} {
		d := withFiles(t, 14, "12|34", "5|6")
		ahead := tell(d)
		d.Fuse(0)
		checkErr(t, x.act, x.on(d), x.err)
		check(t, d, ahead)
		checkErr(t, "the fuse", d.Sync("a"), api.ErrCrash)
		ahead = tell(d)
		checkErr(t, x.act, x.on(d), api.ErrCrash)
		check(t, d, ahead)
	}
}

// Dk2: which error an Append tells where there are as many files as may be, and that others are of no matter to it.
func TestManyFiles(t *testing.T) {
	d := full(t, 2)
	ahead := tell(d)
	for _, x := range []act{{s: ""}, {s: "x"}, {s: "xyz"}} {
		checkErr(t, x, d.Append("g", x.s), api.ErrFull)
		checkErr(t, x, d.Append("G", x.s), api.ErrArg)
	}
	checkErr(t, "no room", d.Append("f63", "xyz"), api.ErrFull)
	check(t, d, ahead)
	done(t, d, act{what: "append", name: "f63", s: ""}, act{what: "append", name: "f0", s: "yz"}, act{what: "append", name: "f5", s: ""})
	done(t, d, act{what: "rename", name: "f1", to: "g"})
	checkErr(t, "as many as ahead", d.Append("f1", ""), api.ErrFull)
	done(t, d, act{what: "rename", name: "f2", to: "g"}, act{what: "append", name: "f1", s: "x"})
	checkErr(t, "as many again", d.Append("f2", ""), api.ErrFull)
	done(t, d, act{what: "remove", name: "f3"}, act{what: "append", name: "f2", s: "x"})
	checkErr(t, "as many again", d.Append("f3", ""), api.ErrFull)
	if len(d.Names()) != 64 || d.Used() != 66 || !slices.IsSorted(d.Names()) {
		t.Errorf("%d files, %d bytes: %q", len(d.Names()), d.Used(), d.Names())
	}
	d.Crash()
	checkErr(t, "not up", d.Append("G", "xyz"), api.ErrCrash)
	d.Up()
	checkErr(t, "as many still", d.Append("f3", ""), api.ErrFull)
}

// Dk2: an Append, of nothing too, to a file that is there, and to one that is not.
func TestAppend(t *testing.T) {
	d := New(6)
	done(t, d, act{what: "append", name: "b", s: ""})
	check(t, d, "up 1 0 b:|")
	done(t, d, act{what: "append", name: "b", s: ""}, act{what: "append", name: "b", s: "12"})
	check(t, d, "up 3 2 b:|12")
	done(t, d, act{what: "append", name: "b", s: ""}, act{what: "append", name: "a", s: "3"})
	check(t, d, "up 5 3 a:|3 b:|12")
	done(t, d, act{what: "sync", name: "b"}, act{what: "append", name: "b", s: ""})
	check(t, d, "up 7 3 a:|3 b:12|")
	done(t, d, act{what: "append", name: "b", s: "456"})
	check(t, d, "up 8 6 a:|3 b:12|456")
	done(t, d, act{what: "append", name: "b", s: ""}, act{what: "append", name: "c", s: ""})
	check(t, d, "up 10 6 a:|3 b:12|456 c:|")
}

// Dk2: bytes of every value, many of them, and many Appends.
func TestAppendAnyBytes(t *testing.T) {
	d := New(1 << 20)
	var all []byte
	for b := range 256 {
		all = append(all, byte(b))
		done(t, d, act{what: "append", name: "a", s: string([]byte{byte(b)})})
	}
	for range 1 << 15 {
		all = append(all, "0123456789"...)
		if err := d.Append("a", "0123456789"); err != api.OK {
			t.Fatal(err)
		}
	}
	if s, err := d.Read("a"); s != string(all) || err != api.OK || d.Used() != len(all) {
		t.Errorf("%d bytes, %d; want %d", len(s), err, len(all))
	}
}

// Dk2: a Sync makes all bytes of its file sure, and of no other one.
func TestSync(t *testing.T) {
	d := withFiles(t, 100, "12|34", "|5", "6|", "|")
	for _, x := range []struct{ name, want string }{
		{"a", "up 13 6 a:1234| b:|5 c:6| d:|"},
		{"a", "up 14 6 a:1234| b:|5 c:6| d:|"},
		{"c", "up 15 6 a:1234| b:|5 c:6| d:|"},
		{"d", "up 16 6 a:1234| b:|5 c:6| d:|"},
		{"b", "up 17 6 a:1234| b:5| c:6| d:|"},
	} {
		done(t, d, act{what: "sync", name: x.name})
		check(t, d, x.want)
	}
}

// Dk2: a Cut below, at and above what is sure, of nothing and of all; and what is appended behind it.
func TestCut(t *testing.T) {
	for n, want := range []string{"a:|", "a:1|", "a:12|", "a:12|3", "a:12|34"} {
		d := withFiles(t, 100, "12|34", "5|6")
		done(t, d, act{what: "cut", name: "a", n: n})
		check(t, d, fmt.Sprintf("up 7 %d %s b:5|6", n+2, want))
		done(t, d, act{what: "append", name: "a", s: "xy"})
		check(t, d, fmt.Sprintf("up 8 %d %sxy b:5|6", n+4, want))
		for _, other := range []int{-1, n + 3} {
			checkErr(t, other, d.Cut("a", other), api.ErrRange)
		}
	}
	d := withFiles(t, 100, "|")
	checkErr(t, "of an empty one", d.Cut("a", 1), api.ErrRange)
	done(t, d, act{what: "cut", name: "a", n: 0})
	check(t, d, "up 4 0 a:|")
}

// Dk2: a Rename to a name that is there, to one that is not, and to itself.
func TestRename(t *testing.T) {
	for _, x := range []struct{ from, to, want string }{
		{"a", "aa", "aa:12|34 b:5|6 c:|789"},
		{"a", "bb", "b:5|6 bb:12|34 c:|789"},
		{"a", "z", "b:5|6 c:|789 z:12|34"},
		{"b", "0", "0:5|6 a:12|34 c:|789"},
		{"b", "bb", "a:12|34 bb:5|6 c:|789"},
		{"c", "-", "-:|789 a:12|34 b:5|6"},
		{"c", "aa", "a:12|34 aa:|789 b:5|6"},
		{"a", "b", "b:12|34 c:|789"},
		{"a", "c", "b:5|6 c:12|34"},
		{"b", "a", "a:5|6 c:|789"},
		{"c", "a", "a:|789 b:5|6"},
		{"a", "a", "a:12|34 b:5|6 c:|789"},
		{"b", "b", "a:12|34 b:5|6 c:|789"},
		{"c", "c", "a:12|34 b:5|6 c:|789"},
	} {
		d := withFiles(t, 100, "12|34", "5|6", "|789")
		done(t, d, act{what: "rename", name: x.from, to: x.to})
		used := len(strings.Join(strings.FieldsFunc(x.want, func(c rune) bool { return c < '1' || c > '9' }), ""))
		check(t, d, fmt.Sprintf("up 10 %d %s", used, x.want))
		if s, err := d.Read(x.from); x.from != x.to && (s != "" || err != api.ErrNone) {
			t.Errorf("%v: %q, %d", x, s, err)
		}
		if s, err := d.Read(x.to); s == "" || err != api.OK {
			t.Errorf("%v: %q, %d", x, s, err)
		}
	}
	d := withFiles(t, 100, "12|34")
	done(t, d, act{what: "rename", name: "a", to: "b"}, act{what: "append", name: "b", s: "x"}, act{what: "append", name: "a", s: "y"})
	check(t, d, "up 6 6 a:|y b:12|34x")
}

// Dk2: a Remove takes its file away, and no other one; one of its name begins anew.
func TestRemove(t *testing.T) {
	for _, x := range []struct{ name, want string }{
		{"a", "up 10 5 b:5|6 c:|789"},
		{"b", "up 10 7 a:12|34 c:|789"},
		{"c", "up 10 6 a:12|34 b:5|6"},
	} {
		d := withFiles(t, 100, "12|34", "5|6", "|789")
		done(t, d, act{what: "remove", name: x.name})
		check(t, d, x.want)
		checkErr(t, x.name, d.Remove(x.name), api.ErrNone)
		done(t, d, act{what: "append", name: x.name, s: "x"})
		if s, err := d.Read(x.name); s != "x" || err != api.OK || d.Sure(x.name) != 0 {
			t.Errorf("%s: %q, %d, %d", x.name, s, err, d.Sure(x.name))
		}
	}
}

// Dk1: names are told rising, byte by byte, behind every change.
func TestNamesRise(t *testing.T) {
	d := New(100)
	rise := func(want ...string) {
		t.Helper()
		if l := d.Names(); !slices.Equal(l, want) {
			t.Errorf("%q; want %q", l, want)
		}
	}
	rise()
	for _, name := range []string{"b", "a9", "aa", "a", "z", "-", "0", ".", "a-", "a.", "log.10", "log.9", "log", "log.1"} {
		done(t, d, act{what: "append", name: name})
	}
	rise("-", ".", "0", "a", "a-", "a.", "a9", "aa", "b", "log", "log.1", "log.10", "log.9", "z")
	done(t, d, act{what: "remove", name: "a"}, act{what: "remove", name: "-"}, act{what: "remove", name: "z"})
	rise(".", "0", "a-", "a.", "a9", "aa", "b", "log", "log.1", "log.10", "log.9")
	done(t, d, act{what: "rename", name: "b", to: "-"}, act{what: "rename", name: "a9", to: "zz"})
	rise("-", ".", "0", "a-", "a.", "aa", "log", "log.1", "log.10", "log.9", "zz")
	done(t, d, act{what: "rename", name: "zz", to: "a-"}, act{what: "rename", name: ".", to: "log.1"}, act{what: "cut", name: "aa"}, act{what: "sync", name: "0"})
	rise("-", "0", "a-", "a.", "aa", "log", "log.1", "log.10", "log.9")
	d.Crash()
	rise("-", "0", "a-", "a.", "aa", "log", "log.1", "log.10", "log.9")
	d.Up()
	rise("-", "0", "a-", "a.", "aa", "log", "log.1", "log.10", "log.9")
}

// Dk1: what is told of a disk that is not up: its names, how many bytes are sure and there, but no bytes.
func TestToldWhileDown(t *testing.T) {
	d := withFiles(t, 100, "12|34", "|5")
	d.Crash()
	check(t, d, "down 6 5 a:2 b:0")
	if s, err := d.Read("a"); s != "" || err != api.ErrCrash {
		t.Errorf("%q, %d", s, err)
	}
	if l := d.Names(); !slices.Equal(l, []string{"a", "b"}) || d.Sure("a") != 2 || d.Sure("c") != 0 || d.Used() != 5 || d.On() {
		t.Errorf("%q, %d, %d, %v", l, d.Sure("a"), d.Used(), d.On())
	}
}

// Dk1: what counts as an operation that was begun, and what does not.
func TestOps(t *testing.T) {
	d := withFiles(t, 10, "12|34")
	ops := func(what string, want int) {
		t.Helper()
		if d.Ops() != want {
			t.Errorf("behind %s: %d; want %d", what, d.Ops(), want)
		}
	}
	ops("three", 3)
	for _, a := range []act{{what: "append", name: "A"}, {what: "append", name: "a", s: "1234567"}, {what: "sync", name: "b"}, {what: "rename", name: "b", to: "c"}, {what: "rename", name: "a", to: "C"}, {what: "remove", name: "b"}, {what: "cut", name: "b"}, {what: "cut", name: "a", n: 5}} {
		if a.on(d) == api.OK {
			t.Errorf("%s tells no error", a)
		}
		ops(a.String(), 3)
	}
	d.Read("a")
	d.Names()
	d.Fuse(5)
	d.Fuse(-1)
	d.Up(9)
	ops("no operation", 3)
	for k, a := range []act{{what: "append", name: "a"}, {what: "sync", name: "a"}, {what: "rename", name: "a", to: "a"}, {what: "cut", name: "a", n: 4}, {what: "rename", name: "a", to: "b"}, {what: "remove", name: "b"}} {
		done(t, d, a)
		ops(a.String(), 4+k)
	}
	done(t, d, act{what: "append", name: "a", s: "12"}, act{what: "sync", name: "a"})
	for k, a := range operations("a") {
		d.Fuse(0)
		checkErr(t, a, a.on(d), api.ErrCrash)
		ops("the one that crashes", 12+k)
		checkErr(t, a, a.on(d), api.ErrCrash)
		ops("one while it is not up", 12+k)
		d.Up()
	}
}

// Dk3: what is done of each operation where the fuse ends, with fuses of 0 and of several.
func TestFuse(t *testing.T) {
	for _, n := range []int{0, 1, 2, 7} {
		for _, a := range operations("a") {
			d := withFiles(t, 100, "12|34", "5|6")
			d.Fuse(n)
			for k := range n {
				done(t, d, act{what: "append", name: "b", s: "x"})
				if !d.On() {
					t.Fatalf("%d: down behind %d", n, k)
				}
			}
			checkErr(t, a, a.on(d), api.ErrCrash)
			more := 0
			if a.what == "append" {
				more = 3
			}
			check(t, d, fmt.Sprintf("down %d %d a:2 b:1", 7+n, 6+n+more))
			checkErr(t, a, a.on(d), api.ErrCrash)
			checkErr(t, a, d.Append("b", "!"), api.ErrCrash)
			d.Up(9, 99)
			xyz := ""
			if more > 0 {
				xyz = "xyz"
			}
			check(t, d, fmt.Sprintf("up %d %d a:1234%s| b:56%s|", 7+n, 6+n+more, xyz, strings.Repeat("x", n)))
		}
	}
}

// Dk3: an Append where the fuse ends is done, to a file that was not there, and of nothing; one that has an error is not, and the fuse goes on.
func TestFuseAppend(t *testing.T) {
	d := New(3)
	d.Fuse(0)
	checkErr(t, "no name", d.Append("A", "x"), api.ErrArg)
	checkErr(t, "no room", d.Append("a", "1234"), api.ErrFull)
	check(t, d, "up 0 0")
	checkErr(t, "the one", d.Append("a", "123"), api.ErrCrash)
	check(t, d, "down 1 3 a:0")
	d.Up(2)
	check(t, d, "up 1 2 a:12|")
	d.Fuse(0)
	checkErr(t, "the one", d.Append("b", ""), api.ErrCrash)
	check(t, d, "down 2 2 a:2 b:0")
	d.Up()
	check(t, d, "up 2 2 a:12| b:|")
}

// Dk3: a Rename over another file, and to itself, and a Cut of nothing, where the fuse ends, are not done.
func TestFuseOthers(t *testing.T) {
	for _, a := range []act{{what: "rename", name: "a", to: "b"}, {what: "rename", name: "a", to: "a"}, {what: "cut", name: "a", n: 4}, {what: "cut", name: "a", n: 0}, {what: "sync", name: "c"}} {
		d := withFiles(t, 100, "12|34", "5|6", "7|")
		d.Fuse(0)
		checkErr(t, a, a.on(d), api.ErrCrash)
		check(t, d, "down 10 7 a:2 b:1 c:1")
		d.Up()
		check(t, d, "up 10 4 a:12| b:5| c:7|")
	}
}

// Dk3: a fuse below 0 is none, one laid over another counts alone, and only operations that are begun take of it.
func TestFuseLaid(t *testing.T) {
	for _, x := range []struct {
		fuses []int
		want  int // how many operations are done, or -1: all
	}{
		{[]int{-1}, -1},
		{[]int{-2}, -1},
		{[]int{api.MinInt}, -1},
		{[]int{0, -1}, -1},
		{[]int{3, api.MinInt}, -1},
		{[]int{api.MaxInt}, -1},
		{[]int{5, 2}, 2},
		{[]int{2, 5}, 5},
		{[]int{0, 1}, 1},
		{[]int{-1, 0}, 0},
		{[]int{-5, 3}, 3},
	} {
		d := withFiles(t, 1000, "1|")
		for _, n := range x.fuses {
			d.Fuse(n)
		}
		many := 0
		for range 50 {
			checkErr(t, "none", d.Sync("none"), api.ErrNone)
			d.Read("a")
			if d.Append("a", "x") != api.OK {
				break
			}
			many++
		}
		if want := x.want; many != want && (want >= 0 || many != 50) {
			t.Errorf("%v: %d are done; want %d", x.fuses, many, want)
		}
		if d.On() != (x.want < 0) {
			t.Errorf("%v: up: %v", x.fuses, d.On())
		}
	}
}

// Dk3: a fuse that was begun counts anew if it is laid anew.
func TestFuseLaidAnew(t *testing.T) {
	d := withFiles(t, 100, "1|")
	d.Fuse(2)
	done(t, d, act{what: "sync", name: "a"}, act{what: "sync", name: "a"})
	d.Fuse(1)
	done(t, d, act{what: "sync", name: "a"})
	checkErr(t, "the next one", d.Sync("a"), api.ErrCrash)
	d.Up()
	done(t, d, act{what: "sync", name: "a"}, act{what: "sync", name: "a"}, act{what: "sync", name: "a"})
}

// Dk3: Up and Crash take the fuse away, and so does what crashes by it.
func TestFuseTakenAway(t *testing.T) {
	for name, take := range map[string]func(*Disk){
		"Up":           func(d *Disk) { d.Up() },
		"Crash":        func(d *Disk) { d.Crash(); d.Up() },
		"an operation": func(d *Disk) { d.Fuse(0); d.Append("a", ""); d.Up() },
		"while down":   func(d *Disk) { d.Crash(); d.Fuse(0); d.Up() },
	} {
		for _, n := range []int{0, 1, 3} {
			d := withFiles(t, 100, "1|", "2|")
			d.Fuse(n)
			take(d)
			for k := range 6 {
				checkErr(t, fmt.Sprint(name, n, k), d.Append("a", ""), api.OK)
			}
		}
	}
}

// Dk3: no fuse is left where it crashed: a crash takes it away at once.
func TestCrashTakesFuse(t *testing.T) {
	d := withFiles(t, 100, "1|")
	d.Fuse(4)
	d.Crash()
	if d.fuse != noFuse {
		t.Errorf("behind Crash: %d", d.fuse)
	}
	d.Up()
	d.Fuse(0)
	checkErr(t, "the one", d.Sync("a"), api.ErrCrash)
	if d.fuse != noFuse {
		t.Errorf("behind the operation: %d", d.fuse)
	}
}

// Dk3: how much of what is unsure is kept, of which files: without a number, with fewer, with more, below 0, and above the count; files without unsure bytes take no number.
func TestUp(t *testing.T) {
	for _, x := range []struct {
		keep []int
		want string
	}{
		{nil, "5 a:12| b:| c:6| d:78| e:|"},
		{[]int{0, 0, 0}, "5 a:12| b:| c:6| d:78| e:|"},
		{[]int{1}, "6 a:123| b:| c:6| d:78| e:|"},
		{[]int{2}, "7 a:1234| b:| c:6| d:78| e:|"},
		{[]int{3}, "7 a:1234| b:| c:6| d:78| e:|"},
		{[]int{api.MaxInt}, "7 a:1234| b:| c:6| d:78| e:|"},
		{[]int{-1}, "5 a:12| b:| c:6| d:78| e:|"},
		{[]int{api.MinInt}, "5 a:12| b:| c:6| d:78| e:|"},
		{[]int{0, 1}, "6 a:12| b:5| c:6| d:78| e:|"},
		{[]int{-1, 1}, "6 a:12| b:5| c:6| d:78| e:|"},
		{[]int{1, -1, 2}, "8 a:123| b:| c:6| d:7890| e:|"},
		{[]int{0, 0, 1}, "6 a:12| b:| c:6| d:789| e:|"},
		{[]int{9, 9, 9}, "12 a:1234| b:5x| c:6| d:7890y| e:|"},
		{[]int{1, 1, 1, 9, 9, 9}, "8 a:123| b:5| c:6| d:789| e:|"},
		{[]int{2, 2, 3, -1}, "12 a:1234| b:5x| c:6| d:7890y| e:|"},
		{[]int{api.MaxInt, api.MaxInt, api.MaxInt}, "12 a:1234| b:5x| c:6| d:7890y| e:|"},
		{[]int{api.MinInt, api.MaxInt, api.MinInt}, "7 a:12| b:5x| c:6| d:78| e:|"},
	} {
		for _, down := range []bool{true, false} {
			d := withFiles(t, 100, "12|34", "|5x", "6|", "78|90y", "|")
			if down {
				d.Crash()
				check(t, d, "down 15 12 a:2 b:0 c:1 d:2 e:0")
			}
			d.Up(x.keep...)
			check(t, d, "up 15 "+x.want)
			// All is sure now: nothing takes a number any more.
			d.Crash()
			d.Up(1, 1, 1)
			check(t, d, "up 15 "+x.want)
		}
	}
}

// Dk3: Up, behind crash after crash, and with what is appended behind.
func TestUpAgain(t *testing.T) {
	d := withFiles(t, 100, "12|34")
	d.Crash()
	d.Crash()
	d.Up(1)
	done(t, d, act{what: "append", name: "a", s: "xyz"})
	check(t, d, "up 4 6 a:123|xyz")
	d.Up(2)
	check(t, d, "up 4 5 a:123xy|")
	d.Up(2)
	check(t, d, "up 4 5 a:123xy|")
	done(t, d, act{what: "append", name: "a", s: "45"})
	d.Crash()
	d.Up()
	check(t, d, "up 5 5 a:123xy|")
}

// Dk3: files take numbers in order of their names, whatever order they came in.
func TestUpInOrder(t *testing.T) {
	d := New(100)
	for _, name := range []string{"c", "a9", "b", "a", "a-"} {
		done(t, d, act{what: "append", name: name, s: "12345"})
	}
	done(t, d, act{what: "rename", name: "c", to: "0"})
	d.Crash()
	d.Up(1, 2, 3, 4, 5)
	check(t, d, "up 6 15 0:1| a:12| a-:123| a9:1234| b:12345|")
}

// Dk3: what is handed over is not changed, and not read beyond its end.
func TestUpKeep(t *testing.T) {
	d := withFiles(t, 100, "|12", "|34", "|56")
	keep := []int{-1, 9, 2}
	d.Up(keep[:2]...)
	check(t, d, "up 9 2 a:| b:34| c:|")
	if !slices.Equal(keep, []int{-1, 9, 2}) {
		t.Errorf("it is changed: %d", keep)
	}
}

// Dk3: a disk that is nil, and a zero one, is never up, and has no files, whatever is done.
func TestNilAndZero(t *testing.T) {
	for name, d := range map[string]*Disk{"nil": nil, "zero": {}} {
		for range 2 {
			for _, a := range append(operations("a"), act{what: "read", name: "a"}, act{what: "append", name: "A"}, act{what: "cut", name: "a", n: -1}, act{what: "append", name: "a"}) {
				checkErr(t, name+": "+a.String(), a.on(d), api.ErrCrash)
			}
			for _, a := range []act{{what: "fuse", n: 3}, {what: "fuse", n: 0}, {what: "fuse", n: -2}, {what: "crash"}, {what: "up"}, {what: "up", keep: []int{1, 2}}} {
				a.on(d)
				check(t, d, "down 0 0")
			}
			if s, err := d.Read("a"); s != "" || err != api.ErrCrash || len(d.Names()) != 0 || d.Sure("a") != 0 {
				t.Errorf("%s: %q, %d, %q, %d", name, s, err, d.Names(), d.Sure("a"))
			}
			if d.Used() != 0 || d.Ops() != 0 || d.On() {
				t.Errorf("%s: %d, %d, %v", name, d.Used(), d.Ops(), d.On())
			}
		}
	}
}

// Dk1: answers are new memory: what is done to them, or to the disk behind them, leaves the other as it was.
func TestNewMemory(t *testing.T) {
	d := withFiles(t, 100, "12|34", "5|6")
	s, _ := d.Read("a")
	l := d.Names()
	l[0] = "x"
	clear(d.Names())
	done(t, d, act{what: "cut", name: "a", n: 1}, act{what: "append", name: "a", s: "xyz"})
	if s != "1234" {
		t.Errorf("what was read is %q", s)
	}
	done(t, d, act{what: "append", name: "0"}, act{what: "remove", name: "b"})
	if !slices.Equal(l, []string{"x", "b"}) {
		t.Errorf("the names that were told are %q", l)
	}
	check(t, d, "up 10 4 0:| a:1|xyz")
}

// Dk1: what is told holds on to none of what was handed in.
func TestNotHeld(t *testing.T) {
	whole := strings.Repeat("abc", 10)
	within := func(s string) bool {
		at := uintptr(unsafe.Pointer(unsafe.StringData(s))) - uintptr(unsafe.Pointer(unsafe.StringData(whole)))
		return at < uintptr(len(whole))
	}
	d := New(100)
	done(t, d, act{what: "append", name: whole[:4], s: whole[4:9]}, act{what: "append", name: whole[1:5], s: whole}, act{what: "rename", name: whole[1:5], to: whole[2:8]})
	for _, name := range d.Names() {
		if s, _ := d.Read(name); within(name) || within(s) {
			t.Errorf("%s: its name, or its bytes, are those that were handed in", name)
		}
	}
	check(t, d, "up 3 35 abca:|bcabc cabcab:|"+whole)
}

// Dk4: two disks have nothing of one another.
func TestTwoDisks(t *testing.T) {
	d, other := withFiles(t, 100, "12|34"), withFiles(t, 100, "12|34")
	other.Fuse(0)
	done(t, d, act{what: "append", name: "b", s: "5"}, act{what: "cut", name: "a", n: 1}, act{what: "append", name: "a", s: "xyz"})
	check(t, other, "up 3 4 a:12|34")
	other.Crash()
	check(t, d, "up 6 5 a:1|xyz b:|5")
}

// Dk2, Dk3: the chapter's example.
func TestExample(t *testing.T) {
	d := New(100)
	done(t, d, act{what: "append", name: "f", s: "ab"}, act{what: "sync", name: "f"}, act{what: "append", name: "f", s: "c"})
	d.Crash()
	d.Up()
	check(t, d, "up 3 2 f:ab|")
}
