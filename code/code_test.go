package code

import (
	"encoding/binary"
	"fmt"
	"math/rand"
	"regexp"
	"strings"
	"testing"

	"gossamer/api"
	"gossamer/pack"
)

// plain is a record that may be, of parts that are all different.
func plain() api.Span {
	return api.Span{Trace: 300, Id: 1, Parent: 2, Rev: 3, Service: "web", Op: "GET/a", Start: -5, Dur: 64, Gone: true}
}

// small is the least record that may be.
func small() api.Span { return api.Span{Trace: 1, Id: 1, Service: "s", Op: "o"} }

// turned is a record with some part of it changed.
type turned struct {
	what string
	x    api.Span
}

// turns are records as plain, each with one part changed as it is told, by each of the numbers, or names.
func turns(set func(x *api.Span, n int), what string, l ...int) []turned {
	var all []turned
	for _, n := range l {
		x := plain()
		set(&x, n)
		all = append(all, turned{fmt.Sprint(what, " ", n), x})
	}
	return all
}

// named are records as plain, each with each of the names as its service, and as its operation.
func named(l ...string) []turned {
	var all []turned
	for _, s := range l {
		x, y := plain(), plain()
		x.Service, y.Op = s, s
		all = append(all, turned{fmt.Sprintf("Service %q", s), x}, turned{fmt.Sprintf("Op %q", s), y})
	}
	return all
}

func setTrace(x *api.Span, n int)  { x.Trace = n }
func setId(x *api.Span, n int)     { x.Id = n }
func setParent(x *api.Span, n int) { x.Parent = n }
func setRev(x *api.Span, n int)    { x.Rev = n }
func setStart(x *api.Span, n int)  { x.Start = n }
func setDur(x *api.Span, n int)    { x.Dur = n }

// withByte are texts with a byte at their beginning, within, at their end, and alone.
func withByte(l ...byte) []string {
	var all []string
	for _, b := range l {
		s := string([]byte{b})
		all = append(all, s, s+"b", "a"+s+"b", "a"+s, s+s)
	}
	return all
}

// allowed are records that may be, at all edges.
func allowed() []turned {
	greatest := []int{1, 2, 127, 128, 1<<32 + 1, api.MaxInt - 1, api.MaxInt}
	l := []turned{{"plain", plain()}, {"small", small()}}
	l = append(l, turns(setTrace, "Trace", greatest...)...)
	l = append(l, turns(setId, "Id", greatest...)...)
	l = append(l, turns(setParent, "Parent", append(greatest, 0)...)...)
	l = append(l, turns(setRev, "Rev", append(greatest, 0)...)...)
	l = append(l, turns(setStart, "Start", -1<<62, -1<<62+1, -64, -1, 0, 1, 64, 1<<62-2, 1<<62-1)...)
	l = append(l, turns(setDur, "Dur", -1<<63, -1<<63+1, -1<<62-1, -1<<62, -1, 0, 1, 1<<62-1, 1<<62, 1<<62+1, 1<<63-2, 1<<63-1)...)
	l = append(l, named("a", "!", "~", "ab", "A-Z_0.9/{}", strings.Repeat("!", 24), strings.Repeat("~", 24), strings.Repeat("o", 23), "abcdefghijklmnopqrstuvwx")...)
	l = append(l, named(withByte('!', '~', '"', '}', '0', 'z')...)...)
	back := plain()
	back.Gone = false
	own := plain()
	own.Parent = own.Id
	same := plain()
	same.Service = same.Op
	top := api.Span{Trace: 1<<63 - 1, Id: 1<<63 - 1, Parent: 1<<63 - 1, Rev: 1<<63 - 1, Service: strings.Repeat("~", 24), Op: strings.Repeat("~", 24), Start: 1<<62 - 1, Dur: 1<<63 - 1, Gone: true}
	low := api.Span{Trace: 1, Id: 1, Service: "!", Op: "!", Start: -1 << 62, Dur: -1 << 63}
	return append(l, turned{"not gone", back}, turned{"its own parent", own}, turned{"one name", same}, turned{"greatest", top}, turned{"least", low})
}

// refused are records that may not be, each by one part.
func refused() []turned {
	below := []int{-1, -2, -128, -1 << 32, -1<<32 + 1, api.MinInt + 1, api.MinInt}
	var l []turned
	l = append(l, turns(setTrace, "Trace", append(below, 0)...)...)
	l = append(l, turns(setId, "Id", append(below, 0)...)...)
	l = append(l, turns(setParent, "Parent", below...)...)
	l = append(l, turns(setRev, "Rev", below...)...)
	l = append(l, turns(setStart, "Start", -1<<62-1, -1<<62-2, -1<<63, 1<<62, 1<<62+1, 1<<63-1)...)
	l = append(l, named("", strings.Repeat("o", 25), strings.Repeat("o", 26), strings.Repeat("!", 25), strings.Repeat("o", 48), strings.Repeat("o", 256+24), strings.Repeat("o", 100_000))...)
	l = append(l, named(withByte(0, 1, '\t', '\n', 31, ' ', 127, 128, 129, 160, 161, 0xc0, 0xe9, 0xfe, 255)...)...)
	// Letters of more bytes than one: the last byte, or the letter's number, is like a letter's that is allowed.
	l = append(l, named("é", "aé", "éb", "aéb", "ġ", "Ａ", "\u0121", "\u2061", "𝟕", "\U00010061", "\ufffd", strings.Repeat("é", 12))...)
	l = append(l, named(strings.Repeat("o", 23)+" ", " "+strings.Repeat("o", 23), strings.Repeat("o", 23)+"\x7f", strings.Repeat("o", 23)+"\x80", strings.Repeat("o", 24)+" ")...)
	return append(l, turned{"zero", api.Span{}})
}

// letters are names, by the chapter's words.
var letters = regexp.MustCompile(`\A[\x21-\x7e]{1,24}\z`)

// modelMay is the chapter's words, one by one.
func modelMay(x api.Span) api.Errno {
	ids := x.Trace > 0 && x.Id > 0 && x.Parent >= 0 && x.Rev >= 0
	names := letters.MatchString(x.Service) && letters.MatchString(x.Op)
	begins := -1<<62 <= x.Start && x.Start <= 1<<62-1
	if ids && names && begins {
		return 0
	}
	return 1
}

// modelBytes are a record's parts, by the library's numbers.
func modelBytes(x api.Span) string {
	var b []byte
	for _, n := range []int{x.Trace, x.Id, x.Parent, x.Rev} {
		if n >= 0 {
			b = binary.AppendUvarint(b, uint64(n))
		}
	}
	for _, s := range []string{x.Service, x.Op} {
		b = append(binary.AppendUvarint(b, uint64(len(s))), s...)
	}
	for _, n := range []int{x.Start, x.Dur} {
		b = binary.AppendVarint(b, int64(n))
	}
	if x.Gone {
		return string(append(b, 1))
	}
	return string(append(b, 0))
}

// model reads bytes by the words of the layers below.
type model struct {
	s   string
	err api.Errno
}

// number is the number of at most so many bytes that is next; the last one of ten is 1 at most.
func (m *model) number(most int) uint64 {
	if m.err != 0 {
		return 0
	}
	size := 0
	for size < len(m.s) && size < most && m.s[size] >= 128 {
		size++
	}
	switch {
	case size == most:
		m.err = 2
	case size == len(m.s):
		m.err = 3
	case size > 0 && m.s[size] == 0, size == 9 && m.s[size] > 1:
		m.err = 2
	}
	if m.err != 0 {
		return 0
	}
	n, _ := binary.Uvarint([]byte(m.s[:size+1]))
	m.s = m.s[size+1:]
	return n
}

func (m *model) num() int { return int(m.number(9)) }

func (m *model) signed() int {
	n := m.number(10)
	return int(n>>1) ^ -int(n&1)
}

func (m *model) text() string {
	ahead := m.s
	n := m.num()
	switch {
	case m.err != 0:
		return ""
	case n > 24:
		m.err = 12
	case n > len(m.s):
		m.err = 3
	}
	if m.err != 0 {
		m.s = ahead
		return ""
	}
	s := m.s[:n]
	m.s = m.s[n:]
	return s
}

func (m *model) flag() bool {
	switch {
	case m.err != 0:
		return false
	case m.s == "":
		m.err = 3
		return false
	case m.s[0] > 1:
		m.err = 2
		return false
	}
	is := m.s[0] == 1
	m.s = m.s[1:]
	return is
}

// span is the record that is next.
func (m *model) span() api.Span {
	x := api.Span{Trace: m.num(), Id: m.num(), Parent: m.num(), Rev: m.num(), Service: m.text(), Op: m.text(), Start: m.signed(), Dur: m.signed(), Gone: m.flag()}
	if m.err != 0 {
		return api.Span{}
	}
	return x
}

// modelTake is the chapter's words, one by one.
func modelTake(s string) (api.Span, api.Errno) {
	m := model{s: s}
	x := m.span()
	err := m.err
	if err == 0 && m.s != "" {
		err = 2
	}
	if err == 0 {
		err = modelMay(x)
	}
	if err != 0 {
		return api.Span{}, err
	}
	return x, 0
}

// checkTake holds what bytes are taken as against the model, and, if they are a record's, what it is put as against them.
func checkTake(t *testing.T, s string) api.Errno {
	t.Helper()
	want, wantErr := modelTake(s)
	x, err := Take(s)
	if x != want || err != wantErr {
		t.Errorf("Take(%q) = %+v, %d; want %+v, %d", s, x, err, want, wantErr)
	}
	if err == api.OK {
		if back, err := Put(x); back != s || err != api.OK {
			t.Errorf("Take(%q) = %+v, which is put as %q, %d", s, x, back, err)
		}
	}
	return err
}

// checkRead holds what is read of bytes, which other parts may stand ahead of, against the model.
func checkRead(t *testing.T, r *pack.Reader, s string) {
	t.Helper()
	m := model{s: s}
	want := m.span()
	x := Read(r)
	if x != want || r.Err() != m.err || r.Left() != len(m.s) {
		t.Errorf("Read of %q: %+v, %d, %d left; want %+v, %d, %d left", s, x, r.Err(), r.Left(), want, m.err, len(m.s))
	}
}

// drawnText is a text of mostly letters.
func drawnText(r *rand.Rand) string {
	b := make([]byte, r.Intn(27))
	for i := range b {
		b[i] = byte('!' + r.Intn('~'-'!'+1))
		if r.Intn(60) == 0 {
			b[i] = byte(r.Intn(256))
		}
	}
	return string(b)
}

// drawnNumber is a number of any length, seldom below 0.
func drawnNumber(r *rand.Rand) int {
	n := int(r.Uint64()>>1) >> r.Intn(63)
	if r.Intn(16) == 0 {
		return ^n
	}
	return n
}

// drawn is a record that may be, or may not.
func drawn(r *rand.Rand) api.Span {
	return api.Span{
		Trace: drawnNumber(r), Id: drawnNumber(r), Parent: drawnNumber(r), Rev: drawnNumber(r),
		Service: drawnText(r), Op: drawnText(r),
		Start: int(r.Uint64()) >> r.Intn(64), Dur: int(r.Uint64()) >> r.Intn(64), Gone: r.Intn(2) == 0,
	}
}

// Cd1: May, of records that may be, at all edges.
func TestMay(t *testing.T) {
	for _, y := range allowed() {
		if err := May(y.x); err != api.OK || modelMay(y.x) != api.OK {
			t.Errorf("%s: %d", y.what, err)
		}
	}
}

// Cd1: May, of records that may not be by one part.
func TestMayNot(t *testing.T) {
	for _, y := range refused() {
		if err := May(y.x); err != api.ErrArg || modelMay(y.x) != api.ErrArg {
			t.Errorf("%s: %d", y.what, err)
		}
	}
}

// Cd1: May, of names with each byte at each place, of each length.
func TestMayNames(t *testing.T) {
	for size := range 27 {
		name := strings.Repeat("o", size)
		for _, y := range named(name) {
			if err := May(y.x); (err == api.OK) != (1 <= size && size <= 24) {
				t.Errorf("%s: %d", y.what, err)
			}
		}
		for at := range size {
			for b := range 256 {
				s := name[:at] + string([]byte{byte(b)}) + name[at+1:]
				want := api.ErrArg
				if size <= 24 && 33 <= b && b <= 126 {
					want = api.OK
				}
				for _, y := range named(s) {
					if err := May(y.x); err != want {
						t.Errorf("%s: %d; want %d", y.what, err, want)
					}
				}
			}
		}
	}
}

// Cd1: May is the chapter's words, of drawn records.
func TestMayModel(t *testing.T) {
	r := rand.New(rand.NewSource(1))
	many := [2]int{}
	for range 50_000 {
		x := drawn(r)
		err := May(x)
		if want := modelMay(x); err != want {
			t.Errorf("%+v: %d; want %d", x, err, want)
		}
		many[err]++
	}
	if many[api.OK] < 1000 || many[api.ErrArg] < 1000 {
		t.Errorf("%d", many)
	}
}

// Cd1: Write, of records that may be and that may not, into a Writer that has written nothing, behind other parts, and behind one another.
func TestWrite(t *testing.T) {
	var all pack.Writer
	var wantAll string
	for _, y := range append(allowed(), refused()...) {
		want := modelBytes(y.x)
		var alone, behind pack.Writer
		Write(&alone, y.x)
		if got := alone.Bytes(); got != want {
			t.Errorf("%s: %q; want %q", y.what, got, want)
		}
		behind.Text("ab")
		behind.Signed(-1)
		Write(&behind, y.x)
		behind.Num(7)
		if got, want := behind.Bytes(), "\x02ab\x01"+want+"\x07"; got != want {
			t.Errorf("%s: %q; want %q", y.what, got, want)
		}
		if len(want) < 1000 {
			Write(&all, y.x)
			wantAll += want
		}
	}
	if all.Bytes() != wantAll {
		t.Error("records behind one another")
	}
}

// Cd1: Write, by bytes that the chapters tell.
func TestWriteBytes(t *testing.T) {
	for _, x := range []struct {
		x    api.Span
		want string
	}{
		{api.Span{}, "\x00\x00\x00\x00\x00\x00\x00\x00\x00"},
		{plain(), "\xac\x02\x01\x02\x03\x03web\x05GET/a\x09\x80\x01\x01"},
		{api.Span{Trace: 1, Id: 2, Parent: 3, Rev: 4, Service: "s", Op: "o", Start: 5, Dur: 6}, "\x01\x02\x03\x04\x01s\x01o\x0a\x0c\x00"},
		{api.Span{Trace: -1, Id: -2, Parent: -3, Rev: -4, Service: " ", Op: "\x80", Start: -1, Dur: -2, Gone: true}, "\x01 \x01\x80\x01\x03\x01"},
		{api.Span{Trace: 1, Id: -2, Parent: 3, Rev: -4, Start: -1 << 63, Dur: 1<<63 - 1}, "\x01\x03\x00\x00\xff\xff\xff\xff\xff\xff\xff\xff\xff\x01\xfe\xff\xff\xff\xff\xff\xff\xff\xff\x01\x00"},
		{api.Span{Service: strings.Repeat("s", 200)}, "\x00\x00\x00\x00\xc8\x01" + strings.Repeat("s", 200) + "\x00\x00\x00\x00"},
	} {
		var w pack.Writer
		Write(&w, x.x)
		if w.Bytes() != x.want {
			t.Errorf("%+v: %q; want %q", x.x, w.Bytes(), x.want)
		}
	}
	var w pack.Writer
	Write(&w, api.Span{Trace: 1, Id: 1, Service: "s", Op: "o"})
	if len(w.Bytes()) != 11 {
		t.Errorf("%q", w.Bytes())
	}
}

// Cd1: Read, of what was written, behind other parts, with others behind it, whether the record may be or not.
func TestRead(t *testing.T) {
	for _, y := range append(allowed(), refused()...) {
		s := modelBytes(y.x)
		checkRead(t, pack.New(s), s)
		r := pack.New("\x02ab" + s + "\x07")
		if r.Text(9) != "ab" {
			t.Fatal("the part ahead")
		}
		checkRead(t, r, s+"\x07")
		if r.Err() == api.OK && (r.Left() != 1 || r.Num() != 7 || r.End() != api.OK) {
			t.Errorf("%s: the part behind", y.what)
		}
	}
	// Records that may not be are read as they are.
	for _, x := range []api.Span{{}, {Trace: 1, Service: " ", Op: "\xff", Start: 1 << 62, Dur: -7, Gone: true}} {
		r := pack.New(modelBytes(x))
		if got := Read(r); got != x || r.End() != api.OK {
			t.Errorf("%+v, %d; want %+v", got, r.End(), x)
		}
	}
}

// Cd1: Read, of records one behind the other.
func TestReadMany(t *testing.T) {
	var s string
	for _, y := range allowed() {
		s += modelBytes(y.x)
	}
	r := pack.New(s)
	for _, y := range allowed() {
		if x := Read(r); x != y.x || r.Err() != api.OK {
			t.Errorf("%s: %+v, %d", y.what, x, r.Err())
		}
	}
	if r.End() != api.OK {
		t.Error(r.End())
	}
	if x := Read(r); x != (api.Span{}) || r.Err() != api.ErrShort {
		t.Errorf("%+v, %d", x, r.Err())
	}
}

// Cd1: Read, of a reader that has an error already, which stays; and of one that is nil, or of nothing.
func TestReadBehindError(t *testing.T) {
	for _, x := range []struct {
		head  string
		spoil func(r *pack.Reader)
		err   api.Errno
	}{
		{"\x02", func(r *pack.Reader) { r.Flag() }, api.ErrForm},
		{"\x80\x00", func(r *pack.Reader) { r.Num() }, api.ErrForm},
		{"\x05", func(r *pack.Reader) { r.Text(4) }, api.ErrBig},
		{"\xff\x7f", func(r *pack.Reader) { r.Text(api.MaxInt) }, api.ErrShort},
	} {
		s := x.head + modelBytes(plain())
		r := pack.New(s)
		x.spoil(r)
		if y := Read(r); y != (api.Span{}) || r.Err() != x.err || r.Left() != len(s) {
			t.Errorf("%q: %+v, %d, %d left", x.head, y, r.Err(), r.Left())
		}
	}
	var zero pack.Reader
	if x := Read(&zero); x != (api.Span{}) || zero.Err() != api.ErrShort {
		t.Errorf("%+v, %d", x, zero.Err())
	}
}

// R1: what is nil is written to, and read, without anything.
func TestNil(t *testing.T) {
	Write(nil, plain())
	if x := Read(nil); x != (api.Span{}) {
		t.Errorf("%+v", x)
	}
}

// wrongs are bytes that are no record's, each with the error that is asked for.
func wrongs() []struct {
	s   string
	err api.Errno
} {
	all := modelBytes(plain()) // "\xac\x02" "\x01" "\x02" "\x03" "\x03web" "\x05GET/a" "\x09" "\x80\x01" "\x01"
	name24, name25 := strings.Repeat("o", 24), strings.Repeat("o", 25)
	return []struct {
		s   string
		err api.Errno
	}{
		{"", api.ErrShort},
		{"\x00", api.ErrShort},
		{"\x80", api.ErrShort},
		{strings.Repeat("\x00", 8), api.ErrShort},
		{strings.Repeat("\x00", 9), api.ErrArg},
		{strings.Repeat("\x00", 10), api.ErrForm},
		{strings.Repeat("\xff", 8), api.ErrShort},
		{strings.Repeat("\xff", 9), api.ErrForm},
		{all + "\x00", api.ErrForm},
		{all + "\x01", api.ErrForm},
		{all + all, api.ErrForm},
		{"\x00" + all, api.ErrBig},
		// Each part by itself.
		{"\x00" + all[2:], api.ErrArg},
		{"\x80\x00" + all[2:], api.ErrForm},
		{all[:2] + "\x00" + all[3:], api.ErrArg},
		{all[:2] + "\x81\x00" + all[3:], api.ErrForm},
		{all[:3] + "\x82\x00" + all[4:], api.ErrForm},
		{all[:4] + "\x83\x00" + all[5:], api.ErrForm},
		{all[:4] + strings.Repeat("\x80", 9) + all[4:], api.ErrForm},
		{all[:5] + "\x83\x00" + all[6:], api.ErrForm},
		{all[:5] + "\x00" + all[9:], api.ErrArg},
		{all[:5] + "\x18" + name24, api.ErrShort},
		{all[:5] + "\x19" + name25 + all[9:], api.ErrBig},
		{all[:5] + "\x19", api.ErrBig},
		{all[:5] + "\x18" + name24[1:], api.ErrShort},
		{all[:5] + "\xff\x7f", api.ErrBig},
		{all[:5] + "\x03w b" + all[9:], api.ErrArg},
		{all[:5] + "\x03we\x7f" + all[9:], api.ErrArg},
		{all[:5] + "\x03\x80eb" + all[9:], api.ErrArg},
		{all[:5] + "\x03w\x00b" + all[9:], api.ErrArg},
		{all[:9] + "\x00" + all[15:], api.ErrArg},
		{all[:9] + "\x19" + name25 + all[15:], api.ErrBig},
		{all[:9] + "\x19", api.ErrBig},
		{all[:9] + "\x18" + name24[1:], api.ErrShort},
		{all[:9] + "\x03w b" + all[15:], api.ErrArg},
		{all[:15] + "\x89\x00" + all[16:], api.ErrForm},
		{all[:15] + strings.Repeat("\xff", 9) + "\x01" + all[16:], api.ErrArg},
		{all[:15] + strings.Repeat("\xff", 9) + "\x02" + all[16:], api.ErrForm},
		{all[:15] + strings.Repeat("\xff", 10), api.ErrForm},
		{all[:15] + "\x80\x80\x80\x80\x80\x80\x80\x80\x80\x01" + all[16:], api.ErrArg},
		{all[:16] + "\x80\x81\x00" + all[18:], api.ErrForm},
		{all[:16] + strings.Repeat("\xff", 9) + "\x02" + all[18:], api.ErrForm},
		{all[:18] + "\x02", api.ErrForm},
		{all[:18] + "\x80", api.ErrForm},
		{all[:18] + "\xff", api.ErrForm},
		// The first error counts, and that of a part ahead of that of the record.
		{"\x00" + all[2:18], api.ErrShort},
		{"\x00" + all[2:18] + "\x02", api.ErrForm},
		{"\x00" + all[2:] + "\x00", api.ErrForm},
		{"\x00" + all[2:5] + "\x19", api.ErrBig},
		{"\x80\x00" + all[2:5] + "\x19", api.ErrForm},
		{all[:5] + "\x19" + name25 + "\x80\x00", api.ErrBig},
	}
}

// Cd1: Take, of bytes that are no record's, with the error that each of them asks for.
func TestTakeWrong(t *testing.T) {
	for _, x := range wrongs() {
		if got, err := Take(x.s); got != (api.Span{}) || err != x.err {
			t.Errorf("Take(%q) = %+v, %d; want %d", x.s, got, err, x.err)
		}
		checkTake(t, x.s)
		checkRead(t, pack.New(x.s), x.s)
	}
}

// Cd1: Put, of records that may not be, and Take of what they are written as.
func TestPutWrong(t *testing.T) {
	for _, y := range refused() {
		if s, err := Put(y.x); s != "" || err != api.ErrArg {
			t.Errorf("%s: %q, %d", y.what, s, err)
		}
		if err := checkTake(t, modelBytes(y.x)); err == api.OK {
			t.Errorf("%s is taken", y.what)
		}
	}
}

// Cd1: Read and Take, of texts of 24 bytes and of 25.
func TestTexts(t *testing.T) {
	for size := range 30 {
		for _, y := range named(strings.Repeat("o", size)) {
			s := modelBytes(y.x)
			r := pack.New(s)
			x := Read(r)
			if size <= 24 && (x != y.x || r.End() != api.OK) || size > 24 && (x != (api.Span{}) || r.Err() != api.ErrBig) {
				t.Errorf("%s: %+v, %d", y.what, x, r.End())
			}
			want := api.OK
			switch {
			case size == 0:
				want = api.ErrArg
			case size > 24:
				want = api.ErrBig
			}
			if err := checkTake(t, s); err != want {
				t.Errorf("%s: %d; want %d", y.what, err, want)
			}
		}
	}
}

// Cd1: bytes that are cut off anywhere are too short; with bytes behind the record they have no form.
func TestCutOff(t *testing.T) {
	for _, y := range allowed() {
		s := modelBytes(y.x)
		for at := range len(s) {
			if x, err := Take(s[:at]); x != (api.Span{}) || err != api.ErrShort {
				t.Errorf("%s, %d bytes: %+v, %d", y.what, at, x, err)
			}
			checkRead(t, pack.New(s[:at]), s[:at])
		}
		for _, more := range []string{"\x00", "\x01", "\xff", " ", s, s[:1]} {
			if x, err := Take(s + more); x != (api.Span{}) || err != api.ErrForm {
				t.Errorf("%s, with %q: %+v, %d", y.what, more, x, err)
			}
			checkRead(t, pack.New(s+more), s+more)
		}
	}
}

// Cd1, Cd2: Take and Read are the chapter's words, of a record's bytes with one more, one less, or another one.
func TestTakeChanged(t *testing.T) {
	many := map[api.Errno]int{}
	for _, x := range []api.Span{plain(), small(), {Trace: 1<<63 - 1, Id: 128, Parent: 1 << 14, Rev: 127, Service: strings.Repeat("s", 24), Op: "~!", Start: -1 << 62, Dur: -1 << 63}} {
		s := modelBytes(x)
		for at := range len(s) + 1 {
			for b := range 256 {
				l := []string{s[:at] + string([]byte{byte(b)}) + s[at:]}
				if at < len(s) {
					l = append(l, s[:at]+string([]byte{byte(b)})+s[at+1:], s[:at]+s[at+1:])
				}
				for _, s := range l {
					many[checkTake(t, s)]++
					checkRead(t, pack.New(s), s)
				}
			}
		}
	}
	for _, err := range []api.Errno{api.OK, api.ErrArg, api.ErrForm, api.ErrShort, api.ErrBig} {
		if many[err] < 10 {
			t.Errorf("error %d: %d times", err, many[err])
		}
	}
}

// Cd1, Cd2: Take and Read are the chapter's words, of drawn bytes, of which each may begin a part.
func TestTakeDrawn(t *testing.T) {
	r := rand.New(rand.NewSource(2))
	bytes := "\x00\x00\x01\x01\x01\x02\x03ab~! \x7f\x80\x81\xff"
	taken := 0
	for range 200_000 {
		b := make([]byte, 9+r.Intn(6))
		for i := range b {
			b[i] = bytes[r.Intn(len(bytes))]
		}
		s := string(b)
		if r.Intn(2) == 0 {
			// So more of them are a record's.
			s = "\x01\x02\x00\x01\x01a" + s[6:]
		}
		if checkTake(t, s) == api.OK {
			taken++
		}
		checkRead(t, pack.New(s), s)
	}
	if taken < 20 {
		t.Errorf("%d are records", taken)
	}
}

// Cd1, Cd2: what is put has the bytes of its parts, and is taken as it was.
func TestPutTake(t *testing.T) {
	l := allowed()
	r := rand.New(rand.NewSource(3))
	for range 50_000 {
		x := drawn(r)
		if modelMay(x) == api.OK {
			l = append(l, turned{fmt.Sprintf("%+v", x), x})
		} else if s, err := Put(x); s != "" || err != api.ErrArg {
			t.Errorf("%+v: %q, %d", x, s, err)
		}
	}
	for _, y := range l {
		s, err := Put(y.x)
		if s != modelBytes(y.x) || err != api.OK {
			t.Errorf("%s: %q, %d; want %q", y.what, s, err, modelBytes(y.x))
		}
		if x, err := Take(s); x != y.x || err != api.OK {
			t.Errorf("%s: taken as %+v, %d", y.what, x, err)
		}
	}
	if len(l) < 1000 {
		t.Errorf("%d records", len(l))
	}
}

// Cd2: no two records have the same bytes, though they differ by one part alone.
func TestNoTwoAlike(t *testing.T) {
	numbers := []int{1, 2, 127, 128, 1 << 62, api.MaxInt}
	names := []string{"a", "b", "aa", "!", "~", "a!"}
	seen := map[string]api.Span{}
	for _, trace := range numbers {
		for _, id := range numbers {
			for _, parent := range []int{0, 1, 127, api.MaxInt} {
				for _, rev := range []int{0, 1, 128} {
					for _, service := range names {
						for _, op := range names {
							x := api.Span{Trace: trace, Id: id, Parent: parent, Rev: rev, Service: service, Op: op}
							for _, x.Start = range []int{-1, 0, 1} {
								for _, x.Dur = range []int{-1, 0} {
									for _, x.Gone = range []bool{false, true} {
										s, err := Put(x)
										if y, found := seen[s]; found || err != api.OK {
											t.Fatalf("%+v, %+v: %q, %d", x, y, s, err)
										}
										seen[s] = x
									}
								}
							}
						}
					}
				}
			}
		}
	}
	for s, x := range seen {
		if y, err := Take(s); y != x || err != api.OK {
			t.Fatalf("%q: %+v, %d; want %+v", s, y, err, x)
		}
	}
}
