package lot

import (
	"encoding/binary"
	"fmt"
	"math/rand"
	"regexp"
	"slices"
	"strconv"
	"strings"
	"testing"

	"gossamer/api"
)

// of is a record that may be, of a number: no two of them are the same.
func of(id int) api.Span {
	return api.Span{Trace: 1 + id%3, Id: id, Parent: id / 2, Rev: id % 5, Service: "web", Op: "get", Start: 100 - id, Dur: id * 10, Gone: id%7 == 0}
}

// lotOf are so many records that may be.
func lotOf(many int) []api.Span {
	l := make([]api.Span, many)
	for i := range l {
		l[i] = of(i + 1)
	}
	return l
}

// with is a list with some of its records put in place of those that it has there.
func with(l []api.Span, x api.Span, at ...int) []api.Span {
	l = slices.Clone(l)
	for _, i := range at {
		l[i] = x
	}
	return l
}

// edges are records that may be, at the edges of their parts.
func edges() []api.Span {
	return []api.Span{
		{Trace: 1, Id: 1, Service: "!", Op: "~"},
		{Trace: 127, Id: 128, Parent: 129, Rev: 16384, Service: strings.Repeat("!", 24), Op: strings.Repeat("~", 24), Start: 63, Dur: -65},
		{Trace: 1<<63 - 1, Id: 1<<63 - 1, Parent: 1<<63 - 1, Rev: 1<<63 - 1, Service: strings.Repeat("~", 24), Op: "a", Start: 1<<62 - 1, Dur: 1<<63 - 1, Gone: true},
		{Trace: 1, Id: 1<<63 - 1, Parent: 1<<63 - 1, Service: "a", Op: strings.Repeat("o", 24), Start: -1 << 62, Dur: -1 << 63, Gone: true},
		// Its own parent, and a duration that is more than is kept.
		{Trace: 5, Id: 5, Parent: 5, Service: "a", Op: "a", Dur: 1<<62 + 1},
	}
}

// refused are records that may not be, each by one part, whose parts can be read (but for those of long names, and of numbers below 0).
func refused() map[string]api.Span {
	all := map[string]api.Span{}
	for what, set := range map[string]func(x *api.Span){
		"Trace 0":      func(x *api.Span) { x.Trace = 0 },
		"Id 0":         func(x *api.Span) { x.Id = 0 },
		"no Service":   func(x *api.Span) { x.Service = "" },
		"blank within": func(x *api.Span) { x.Service = "w b" },
		"no Op":        func(x *api.Span) { x.Op = "" },
		"byte 127":     func(x *api.Span) { x.Op = "ge\x7f" },
		"byte 128":     func(x *api.Span) { x.Op = "\x80et" },
		"early":        func(x *api.Span) { x.Start = -1<<62 - 1 },
		"late":         func(x *api.Span) { x.Start = 1 << 62 },
		"least":        func(x *api.Span) { x.Start = -1 << 63 },
	} {
		x := of(9)
		set(&x)
		all[what] = x
	}
	all["zero"] = api.Span{}
	return all
}

// unread are records that may not be, and whose parts can't be read.
func unread() map[string]api.Span {
	all := map[string]api.Span{}
	for what, set := range map[string]func(x *api.Span){
		"Trace -1":     func(x *api.Span) { x.Trace = -1 },
		"Id -1":        func(x *api.Span) { x.Id = -1 },
		"Parent -1":    func(x *api.Span) { x.Parent = -1 },
		"Rev -1":       func(x *api.Span) { x.Rev = -1 },
		"Rev least":    func(x *api.Span) { x.Rev = -1 << 63 },
		"long Service": func(x *api.Span) { x.Service = strings.Repeat("s", 25) },
		"long Op":      func(x *api.Span) { x.Op = strings.Repeat("o", 25) },
	} {
		x := of(9)
		set(&x)
		all[what] = x
	}
	return all
}

// letters are names, by layer 9's words.
var letters = regexp.MustCompile(`\A[\x21-\x7e]{1,24}\z`)

// modelMay is layer 9's words, one by one.
func modelMay(x api.Span) bool {
	ids := x.Trace > 0 && x.Id > 0 && x.Parent >= 0 && x.Rev >= 0
	names := letters.MatchString(x.Service) && letters.MatchString(x.Op)
	return ids && names && -1<<62 <= x.Start && x.Start <= 1<<62-1
}

// num are a number's bytes, by the library.
func num(n int) string { return string(binary.AppendUvarint(nil, uint64(n))) }

// parts are a record's parts, by the library's numbers.
func parts(x api.Span) string {
	var b []byte
	for _, n := range []int{x.Trace, x.Id, x.Parent, x.Rev} {
		b = binary.AppendUvarint(b, uint64(n))
	}
	for _, s := range []string{x.Service, x.Op} {
		b = append(binary.AppendUvarint(b, uint64(len(s))), s...)
	}
	for _, n := range []int{x.Start, x.Dur} {
		b = binary.AppendVarint(b, int64(n))
	}
	if x.Gone {
		return string(append(b, 1))
	}
	return string(append(b, 0))
}

// built are a lot's bytes, whether it may be or not.
func built(l ...api.Span) string {
	s := num(len(l))
	for _, x := range l {
		s += parts(x)
	}
	return s
}

// modelPut is the chapter's words, one by one.
func modelPut(l ...api.Span) (string, api.Errno) {
	if len(l) > 256 {
		return "", api.ErrBig
	}
	if slices.ContainsFunc(l, func(x api.Span) bool { return !modelMay(x) }) {
		return "", api.ErrArg
	}
	return built(l...), api.OK
}

// model reads bytes by the words of the layers below.
type model struct {
	s   string
	err api.Errno
}

// digits is the number of at most so many bytes that is next; the last one of ten is 1 at most.
func (m *model) digits(most int) uint64 {
	if m.err != api.OK {
		return 0
	}
	size := 0
	for size < len(m.s) && size < most && m.s[size] >= 128 {
		size++
	}
	switch {
	case size == most:
		m.err = api.ErrForm
	case size == len(m.s):
		m.err = api.ErrShort
	case size > 0 && m.s[size] == 0, size == 9 && m.s[size] > 1:
		m.err = api.ErrForm
	}
	if m.err != api.OK {
		return 0
	}
	n, _ := binary.Uvarint([]byte(m.s[:size+1]))
	m.s = m.s[size+1:]
	return n
}

func (m *model) num() int { return int(m.digits(9)) }

func (m *model) signed() int {
	n := m.digits(10)
	return int(n>>1) ^ -int(n&1)
}

func (m *model) text() string {
	n := m.num()
	switch {
	case m.err != api.OK:
		return ""
	case n > 24:
		m.err = api.ErrBig
	case n > len(m.s):
		m.err = api.ErrShort
	}
	if m.err != api.OK {
		return ""
	}
	s := m.s[:n]
	m.s = m.s[n:]
	return s
}

func (m *model) flag() bool {
	switch {
	case m.err != api.OK:
		return false
	case m.s == "":
		m.err = api.ErrShort
		return false
	case m.s[0] > 1:
		m.err = api.ErrForm
		return false
	}
	is := m.s[0] == 1
	m.s = m.s[1:]
	return is
}

// span is the record that is next.
func (m *model) span() api.Span {
	return api.Span{Trace: m.num(), Id: m.num(), Parent: m.num(), Rev: m.num(), Service: m.text(), Op: m.text(), Start: m.signed(), Dur: m.signed(), Gone: m.flag()}
}

// modelTake is the chapter's words, one by one.
func modelTake(s string) ([]api.Span, api.Errno) {
	m := model{s: s}
	many := m.num()
	if m.err == api.OK && many > 256 {
		m.err = api.ErrBig
	}
	var l []api.Span
	for m.err == api.OK && len(l) < many {
		l = append(l, m.span())
	}
	if m.err == api.OK && m.s != "" {
		m.err = api.ErrForm
	}
	if m.err == api.OK && slices.ContainsFunc(l, func(x api.Span) bool { return !modelMay(x) }) {
		m.err = api.ErrArg
	}
	if m.err != api.OK {
		return nil, m.err
	}
	return l, api.OK
}

// modelCut is the chapter's words, one by one.
func modelCut(l []api.Span, size int) [][]api.Span {
	var all [][]api.Span
	for i, x := range l {
		if i == 0 || size >= 1 && i%size == 0 {
			all = append(all, nil)
		}
		all[len(all)-1] = append(all[len(all)-1], x)
	}
	return all
}

// quoted are bytes as a text that is not too long.
func quoted(s string) string {
	if len(s) > 100 {
		return fmt.Sprintf("%s.. (%d bytes)", strconv.Quote(s[:100]), len(s))
	}
	return strconv.Quote(s)
}

// checkPut holds what records are put as against the model.
func checkPut(t *testing.T, what string, l ...api.Span) api.Errno {
	t.Helper()
	want, wantErr := modelPut(l...)
	s, err := Put(l...)
	if s != want || err != wantErr {
		t.Errorf("%s: Put of %d records: %s, %d; want %s, %d", what, len(l), quoted(s), err, quoted(want), wantErr)
	}
	return err
}

// checkTake holds what bytes are taken as against the model, and, if they are a lot's, what it is put as against them.
func checkTake(t *testing.T, s string) api.Errno {
	t.Helper()
	want, wantErr := modelTake(s)
	l, err := Take(s)
	if !slices.Equal(l, want) || err != wantErr {
		t.Errorf("Take(%s): %d records, %d; want %d, %d", quoted(s), len(l), err, len(want), wantErr)
	}
	if err == api.OK {
		if back, err := Put(l...); back != s || err != api.OK {
			t.Errorf("Take(%s) is put as %s, %d", quoted(s), quoted(back), err)
		}
	}
	return err
}

// checkErr tells when bytes are taken otherwise than with that error, and no records.
func checkErr(t *testing.T, what, s string, want api.Errno) {
	t.Helper()
	if l, err := Take(s); len(l) > 0 || err != want {
		t.Errorf("%s: Take(%s): %d records, %d; want %d", what, quoted(s), len(l), err, want)
	}
	if _, err := modelTake(s); err != want {
		t.Errorf("%s: the model tells %d of %s; want %d", what, err, quoted(s), want)
	}
}

// checkTaken tells when what is put of records is taken otherwise than as they were.
func checkTaken(t *testing.T, l ...api.Span) {
	t.Helper()
	s, err := Put(l...)
	if want := built(l...); s != want || err != api.OK {
		t.Errorf("Put of %d records: %s, %d; want %s", len(l), quoted(s), err, quoted(want))
	}
	if got, err := Take(s); !slices.Equal(got, l) || err != api.OK {
		t.Errorf("Take of %d records: %d of them, %d", len(l), len(got), err)
	}
}

// checkCut holds the lots that records are cut into against the model, and against the chapter's words of them.
func checkCut(t *testing.T, l []api.Span, size int) {
	t.Helper()
	all, want := Cut(l, size), modelCut(l, size)
	if !slices.EqualFunc(all, want, slices.Equal[[]api.Span]) {
		t.Errorf("Cut of %d, by %d: %v; want %v", len(l), size, sizes(all), sizes(want))
	}
	if !slices.Equal(slices.Concat(all...), l) {
		t.Errorf("Cut of %d, by %d: together they are others: %v", len(l), size, sizes(all))
	}
	for i, x := range all {
		if len(x) == 0 || size >= 1 && (len(x) > size || i < len(all)-1 && len(x) != size) {
			t.Errorf("Cut of %d, by %d: lot %d has %d", len(l), size, i, len(x))
		}
	}
}

// sizes are how many records each lot has.
func sizes(all [][]api.Span) []int {
	var l []int
	for _, x := range all {
		l = append(l, len(x))
	}
	return l
}

// drawn is a record of few values that, now and then, may not be.
func drawn(r *rand.Rand) api.Span {
	x := of(1 + r.Intn(300))
	name := func() string { return strings.Repeat(string(rune('!'+r.Intn('~'-'!'+1))), 1+r.Intn(24)) }
	x.Service, x.Op = name(), name()
	x.Start, x.Dur = int(r.Uint64())>>(2+r.Intn(62)), int(r.Uint64())>>r.Intn(64)
	switch r.Intn(200) {
	case 0:
		x.Id = 0
	case 1:
		x.Service = " "
	case 2:
		x.Start = 1 << 62
	}
	return x
}

// Lt1: Put, of no record: one byte 0.
func TestPutNone(t *testing.T) {
	for _, l := range [][]api.Span{nil, {}, make([]api.Span, 0, 4), lotOf(3)[:0]} {
		if s, err := Put(l...); s != "\x00" || err != api.OK {
			t.Errorf("%q, %d", s, err)
		}
	}
	if s, err := Put(); s != "\x00" || err != api.OK {
		t.Errorf("%q, %d", s, err)
	}
}

// Lt1: Put, of one record and of two, by their bytes.
func TestPutBytes(t *testing.T) {
	one := api.Span{Trace: 1, Id: 2, Parent: 3, Rev: 4, Service: "s", Op: "op", Start: -1, Dur: 64, Gone: true}
	two := api.Span{Trace: 300, Id: 1, Service: "ab", Op: "c", Start: 1, Dur: -2}
	first, second := "\x01\x02\x03\x04\x01s\x02op\x01\x80\x01\x01", "\xac\x02\x01\x00\x00\x02ab\x01c\x02\x03\x00"
	for _, x := range []struct {
		l    []api.Span
		want string
	}{
		{[]api.Span{one}, "\x01" + first},
		{[]api.Span{two}, "\x01" + second},
		{[]api.Span{one, two}, "\x02" + first + second},
		{[]api.Span{two, one}, "\x02" + second + first},
		{[]api.Span{one, one}, "\x02" + first + first},
		{[]api.Span{two, one, two}, "\x03" + second + first + second},
	} {
		if s, err := Put(x.l...); s != x.want || err != api.OK {
			t.Errorf("%d records: %q, %d; want %q", len(x.l), s, err, x.want)
		}
		if l, err := Take(x.want); !slices.Equal(l, x.l) || err != api.OK {
			t.Errorf("Take(%q): %+v, %d", x.want, l, err)
		}
	}
}

// Lt1, Lt2: Put, of so many records that the number has one byte and two, up to the most, and Take of them.
func TestPutMany(t *testing.T) {
	for many, begins := range map[int]string{1: "\x01", 2: "\x02", 126: "\x7e", 127: "\x7f", 128: "\x80\x01", 129: "\x81\x01", 255: "\xff\x01", 256: "\x80\x02"} {
		l := lotOf(many)
		if s, err := Put(l...); !strings.HasPrefix(s, begins+parts(l[0])) || err != api.OK {
			t.Errorf("%d records: %s, %d", many, quoted(s), err)
		}
		checkTaken(t, l...)
		checkTaken(t, slices.Repeat(l[:1], many)...)
		slices.Reverse(l)
		checkTaken(t, l...)
	}
	for many := range 258 {
		checkPut(t, "many", lotOf(many)...)
	}
}

// Lt1: Put, of more records than may be, whether each of them may be or not.
func TestPutTooMany(t *testing.T) {
	for _, many := range []int{257, 258, 512, 513, 65536, 65537, 100_000} {
		l := lotOf(many)
		bad := of(1)
		bad.Rev = -1
		for _, l := range [][]api.Span{l, with(l, bad, 0), with(l, bad, many/2), with(l, bad, many-1), with(l, bad, 256), with(l, bad, 0, 1, many-1), make([]api.Span, many)} {
			if s, err := Put(l...); s != "" || err != api.ErrBig {
				t.Errorf("%d records: %s, %d", many, quoted(s), err)
			}
		}
	}
}

// Lt1: Put, of records of which one may not be, or several: the first one, one within, the last one.
func TestPutRefused(t *testing.T) {
	for _, all := range []map[string]api.Span{refused(), unread()} {
		for what, bad := range all {
			for _, many := range []int{1, 2, 3, 128, 255, 256} {
				l := lotOf(many)
				for _, l := range [][]api.Span{with(l, bad, 0), with(l, bad, many/2), with(l, bad, many-1), with(l, bad, 0, many-1), with(l, bad, 0, many/2, many-1), slices.Repeat([]api.Span{bad}, many)} {
					if s, err := Put(l...); s != "" || err != api.ErrArg {
						t.Errorf("%s, of %d: %s, %d", what, many, quoted(s), err)
					}
				}
			}
		}
	}
	bad := api.Span{Trace: 1, Id: 1, Service: "s", Op: "o", Start: 1 << 62}
	for at := range 256 {
		if s, err := Put(with(lotOf(256), bad, at)...); s != "" || err != api.ErrArg {
			t.Errorf("at %d: %s, %d", at, quoted(s), err)
		}
	}
}

// Lt1, R3: Put reads nothing behind a list's end, and changes nothing.
func TestPutKeepsList(t *testing.T) {
	room := append(lotOf(4), api.Span{}, api.Span{Trace: -1})
	ahead := slices.Clone(room)
	for many := range 5 {
		checkTaken(t, room[:many]...)
	}
	if _, err := Put(room...); err != api.ErrArg {
		t.Errorf("%d", err)
	}
	if !slices.Equal(room, ahead) {
		t.Errorf("%+v; want %+v", room, ahead)
	}
	long := with(lotOf(300), api.Span{}, 256, 257)
	checkTaken(t, long[:256]...)
}

// Lt1, Lt2: what is put is taken as it was, at the edges of all parts.
func TestPutTakeEdges(t *testing.T) {
	l := edges()
	checkTaken(t, l...)
	for i := range l {
		checkTaken(t, l[i])
		checkTaken(t, l[i:]...)
		checkTaken(t, l[:i]...)
		checkTaken(t, l[i], l[0], l[i])
	}
	for i := range l {
		checkTaken(t, slices.Repeat(l[i:i+1], 256)...)
	}
	checkTaken(t, slices.Repeat(l, 51)...)
}

// Lt1: Take, of no bytes, and of no records.
func TestTakeNone(t *testing.T) {
	checkErr(t, "no bytes", "", api.ErrShort)
	if l, err := Take("\x00"); len(l) != 0 || err != api.OK {
		t.Errorf("%+v, %d", l, err)
	}
	checkErr(t, "a byte behind", "\x00\x00", api.ErrForm)
	checkErr(t, "a byte behind", "\x00x", api.ErrForm)
	checkErr(t, "a record behind", "\x00"+parts(of(1)), api.ErrForm)
	checkErr(t, "none is written too long", "\x80\x00", api.ErrForm)
}

// Lt1: Take, of a number above the most, whatever stands behind it.
func TestTakeTooMany(t *testing.T) {
	for _, many := range []int{257, 258, 300, 383, 384, 511, 512, 513, 16384, 65536, 1<<32 - 1, 1 << 32, 1<<32 + 1, 1<<32 + 256, 1<<62 - 1, 1 << 62, 1<<62 + 256, 1<<63 - 2, 1<<63 - 1} {
		for _, behind := range []string{"", "\x00", "\x80", "\xff\xff", parts(of(1)), parts(api.Span{}), parts(of(1)) + "\x19", strings.Repeat("\xff", 20), strings.Repeat(parts(of(1)), 257)} {
			checkErr(t, fmt.Sprint(many), num(many)+behind, api.ErrBig)
		}
	}
	checkErr(t, "257 records", built(lotOf(257)...), api.ErrBig)
	checkErr(t, "257 records, the first one may not be", built(with(lotOf(257), api.Span{}, 0)...), api.ErrBig)
	checkErr(t, "256, without records", "\x80\x02", api.ErrShort)
	checkErr(t, "256, of which one lacks", "\x80\x02"+built(lotOf(255)...)[2:], api.ErrShort)
	checkErr(t, "256, and one more", "\x80\x02"+built(lotOf(257)...)[2:], api.ErrForm)
	checkErr(t, "255, and one more", "\xff\x01"+built(lotOf(256)...)[2:], api.ErrForm)
}

// Lt1: Take, of a number that layer 5 refuses, whatever stands behind it.
func TestTakeWrongNumber(t *testing.T) {
	long := strings.Repeat("\x80", 8)
	for _, behind := range []string{"", "x", parts(of(1)), parts(api.Span{}), parts(of(1)) + parts(of(2)), "\x00"} {
		for _, s := range []string{"\x80\x00", "\x81\x00", "\x82\x80\x00", "\xff\x80\x00", "\x80\x82\x00", long + "\x00", "\x81" + long[1:] + "\x00", long + "\x80", long + "\xff", strings.Repeat("\xff", 9), strings.Repeat("\x80", 20), long + "\x80\x01", "\x81" + long + "\x01"} {
			checkErr(t, "a number", s+behind, api.ErrForm)
		}
	}
	for size := 1; size < 9; size++ {
		for _, digit := range []string{"\x80", "\x81", "\xff"} {
			checkErr(t, "a number without an end", strings.Repeat(digit, size), api.ErrShort)
		}
	}
}

// Lt1: Take, of a number of records of which some lack, or which is less than they are.
func TestTakeOtherNumber(t *testing.T) {
	for _, many := range []int{0, 1, 2, 3, 126, 127, 128, 129, 254, 255, 256} {
		all := built(lotOf(many)...)[len(num(many)):]
		for _, told := range []int{0, 1, 2, 3, 126, 127, 128, 129, 254, 255, 256} {
			switch {
			case told > many:
				checkErr(t, fmt.Sprint(told, " of ", many), num(told)+all, api.ErrShort)
			case told < many:
				checkErr(t, fmt.Sprint(told, " of ", many), num(told)+all, api.ErrForm)
			default:
				if checkTake(t, num(told)+all) != api.OK {
					t.Error(told)
				}
			}
		}
	}
}

// Lt1, Lt2: Take, of a lot's bytes that are cut off anywhere, and of those with bytes behind.
func TestTakeCutOff(t *testing.T) {
	for _, l := range [][]api.Span{lotOf(0), lotOf(1), lotOf(2), lotOf(3), lotOf(127), lotOf(128), lotOf(256), edges(), slices.Repeat(edges(), 3)} {
		s, _ := Put(l...)
		for at := range len(s) {
			if got, err := Take(s[:at]); len(got) > 0 || err != api.ErrShort {
				t.Fatalf("%d of %d bytes: %d records, %d", at, len(s), len(got), err)
			}
		}
		for _, more := range []string{"\x00", "\x01", "\x80", "\xff", " ", parts(of(1)), parts(api.Span{}), parts(of(1))[:5], s, strings.Repeat("\xff", 40)} {
			checkErr(t, "bytes behind", s+more, api.ErrForm)
		}
	}
}

// wrongs are the parts of a record that layer 5 refuses, and the error that each of them asks for, if it is cut off by no end.
func wrongs() map[string]api.Errno {
	all := parts(api.Span{Trace: 1, Id: 2, Parent: 3, Rev: 4, Service: "web", Op: "get", Start: 5, Dur: 6, Gone: true})
	name := strings.Repeat("o", 25)
	return map[string]api.Errno{
		"\x81\x00" + all[1:]:                                      api.ErrForm,
		strings.Repeat("\x80", 9) + "\x01" + all[1:]:              api.ErrForm,
		all[:1] + "\x82\x00" + all[2:]:                            api.ErrForm,
		all[:2] + "\x83\x00" + all[3:]:                            api.ErrForm,
		all[:3] + "\x84\x00" + all[4:]:                            api.ErrForm,
		all[:4] + "\x83\x00" + all[5:]:                            api.ErrForm,
		all[:4] + "\x19" + name + all[8:]:                         api.ErrBig,
		all[:8] + "\x19" + name + all[12:]:                        api.ErrBig,
		all[:8] + "\xff\x7f" + all[9:]:                            api.ErrBig,
		all[:12] + "\x8a\x00" + all[13:]:                          api.ErrForm,
		all[:12] + strings.Repeat("\xff", 9) + "\x02" + all[13:]:  api.ErrForm,
		all[:13] + "\x8c\x00" + all[14:]:                          api.ErrForm,
		all[:13] + strings.Repeat("\xff", 10) + "\x01" + all[14:]: api.ErrForm,
		all[:14] + "\x02":                                         api.ErrForm,
		all[:14] + "\x80":                                         api.ErrForm,
		all[:14] + "\xff":                                         api.ErrForm,
	}
}

// Lt1: Take, of parts that layer 5 refuses, in the first record, within, and in the last one, whatever the others are, and whatever stands behind.
func TestTakeWrongParts(t *testing.T) {
	good, bad, none := parts(of(3)), parts(api.Span{}), ""
	for _, many := range []int{1, 2, 3, 128, 256} {
		for wrong, err := range wrongs() {
			for _, at := range []int{0, many / 2, many - 1} {
				for _, other := range []string{good, bad} {
					for _, behind := range []string{none, "\x00", good} {
						l := slices.Repeat([]string{other}, many)
						l[at] = wrong
						checkErr(t, fmt.Sprint(at, " of ", many), num(many)+strings.Join(l, "")+behind, err)
					}
				}
			}
		}
	}
}

// Lt1: Take, of two records of which parts are refused: the first error counts.
func TestTakeFirstError(t *testing.T) {
	form, big := parts(of(1))[:len(parts(of(1)))-1]+"\x02", parts(unread()["long Op"])
	checkErr(t, "a flag, then a text", "\x02"+form+big, api.ErrForm)
	checkErr(t, "a text, then a flag", "\x02"+big+form, api.ErrBig)
	checkErr(t, "a flag, then none", "\x02"+form, api.ErrForm)
	checkErr(t, "a text, then none", "\x02"+big, api.ErrBig)
	checkErr(t, "a text, and cut off", "\x02"+big[:len(big)-3], api.ErrBig)
	checkErr(t, "cut off within", "\x02"+form[:len(form)-1], api.ErrShort)
	checkErr(t, "a text that is longer than what is left", "\x01"+parts(of(1))[:4]+"\x18web", api.ErrShort)
}

// Lt1: Take, of records that may not be: the first one, one within, the last one, and of such beside parts that are refused, or with bytes behind, or cut off.
func TestTakeRefused(t *testing.T) {
	for what, bad := range refused() {
		for _, many := range []int{1, 2, 3, 128, 256} {
			for _, at := range []int{0, many / 2, many - 1} {
				l := with(lotOf(many), bad, at)
				s := built(l...)
				checkErr(t, what, s, api.ErrArg)
				checkErr(t, what+", a byte behind", s+"\x00", api.ErrForm)
				checkErr(t, what+", a record behind", s+parts(of(1)), api.ErrForm)
				checkErr(t, what+", one that may not be behind", s+parts(bad), api.ErrForm)
				checkErr(t, what+", cut off", s[:len(s)-1], api.ErrShort)
				checkErr(t, what+", a flag that is none", s[:len(s)-1]+"\x02", api.ErrForm)
				if many > 1 {
					checkErr(t, what+", the last one lacks", s[:len(s)-len(parts(l[many-1]))], api.ErrShort)
				}
			}
			checkErr(t, what+", all", built(slices.Repeat([]api.Span{bad}, many)...), api.ErrArg)
		}
	}
	for at := range 256 {
		checkErr(t, fmt.Sprint("at ", at), built(with(lotOf(256), api.Span{Trace: 1}, at)...), api.ErrArg)
	}
}

// Lt1: Take, of records whose parts can't be read as they may not be, tells layer 5's error.
func TestTakeUnread(t *testing.T) {
	for what, bad := range unread() {
		want := api.ErrForm
		if strings.HasPrefix(what, "long") {
			want = api.ErrBig
		}
		for _, l := range [][]api.Span{{bad}, {bad, of(1)}, {of(1), bad}, {api.Span{}, bad}, {bad, {}}} {
			checkErr(t, what, built(l...), want)
		}
	}
}

// Lt1, Lt2: Take is the chapter's words, of a lot's bytes with one more, one less, or another one; what is taken was put so.
func TestTakeChanged(t *testing.T) {
	many := map[api.Errno]int{}
	for _, l := range [][]api.Span{lotOf(1), lotOf(2), {edges()[0], edges()[1]}, edges()[2:4]} {
		s := built(l...)
		for at := range len(s) + 1 {
			for b := range 256 {
				c := string([]byte{byte(b)})
				many[checkTake(t, s[:at]+c+s[at:])]++
				if at < len(s) {
					many[checkTake(t, s[:at]+c+s[at+1:])]++
				}
			}
			if at < len(s) {
				many[checkTake(t, s[:at]+s[at+1:])]++
			}
		}
	}
	for _, err := range []api.Errno{api.OK, api.ErrArg, api.ErrForm, api.ErrShort, api.ErrBig} {
		if many[err] < 10 {
			t.Errorf("error %d: %d times", err, many[err])
		}
	}
}

// Lt1, Lt2: Take is the chapter's words, of drawn bytes, of which each may begin a part.
func TestTakeDrawn(t *testing.T) {
	r := rand.New(rand.NewSource(1))
	letters := "\x00\x00\x01\x01\x01\x02\x03ab~! \x7f\x80\x81\xff"
	taken := 0
	for range 200_000 {
		b := make([]byte, r.Intn(30))
		for i := range b {
			b[i] = letters[r.Intn(len(letters))]
		}
		s := string(b)
		if r.Intn(2) == 0 && len(s) > 9 {
			// So more of them are a lot's.
			s = "\x02\x01\x02\x00\x01\x01a\x01" + s[9:]
		}
		if checkTake(t, s) == api.OK {
			taken++
		}
	}
	if taken < 20 {
		t.Errorf("%d are lots", taken)
	}
}

// Lt1, Lt2: Put and Take are the chapter's words, of drawn records, of as many as may be and of more.
func TestPutTakeDrawn(t *testing.T) {
	r := rand.New(rand.NewSource(2))
	many := map[api.Errno]int{}
	for range 2_000 {
		l := make([]api.Span, r.Intn(1+1<<r.Intn(10)))
		for i := range l {
			l[i] = drawn(r)
		}
		err := checkPut(t, "drawn", l...)
		many[err]++
		if got := checkTake(t, built(l...)); got != err {
			t.Errorf("%d records: put with %d, taken with %d", len(l), err, got)
		}
		if err == api.OK {
			checkTaken(t, l...)
		}
	}
	for _, err := range []api.Errno{api.OK, api.ErrArg, api.ErrBig} {
		if many[err] < 20 {
			t.Errorf("error %d: %d times", err, many[err])
		}
	}
}

// Lt2: no two lots have the same bytes, though one is how the other begins, or the same records in another order.
func TestNoTwoAlike(t *testing.T) {
	one, two := edges()[0], edges()[4]
	seen := map[string]int{}
	all := [][]api.Span{nil, {one}, {two}, {one, one}, {one, two}, {two, one}, {two, two}, {one, one, two}, {one, two, one}, {two, one, one}, {one, one, one}, lotOf(127), lotOf(128), lotOf(255), lotOf(256)}
	for i, l := range all {
		s, err := Put(l...)
		if at, found := seen[s]; found || err != api.OK {
			t.Errorf("lots %d and %d: %s, %d", i, at, quoted(s), err)
		}
		seen[s] = i
	}
}

// Lt1, R3, R4: what Take tells is new memory each time, and the same.
func TestTakeAnew(t *testing.T) {
	s, want := built(lotOf(5)...), lotOf(5)
	first, _ := Take(s)
	second, _ := Take(s)
	first[0], first[4] = api.Span{}, api.Span{}
	if third, err := Take(s); !slices.Equal(second, want) || !slices.Equal(third, want) || err != api.OK {
		t.Errorf("%+v, %+v, %d", second, third, err)
	}
}

// Lt1: Cut, by how many records each lot has.
func TestCutSizes(t *testing.T) {
	for _, x := range []struct {
		many, size int
		want       []int
	}{
		{0, 1, nil}, {0, 2, nil}, {0, 0, nil}, {0, -1, nil}, {0, 1<<63 - 1, nil}, {0, -1 << 63, nil},
		{1, 1, []int{1}}, {1, 2, []int{1}}, {1, 0, []int{1}}, {1, -1, []int{1}}, {1, 1<<63 - 1, []int{1}}, {1, -1 << 63, []int{1}},
		{7, 1, []int{1, 1, 1, 1, 1, 1, 1}}, {7, 2, []int{2, 2, 2, 1}}, {7, 3, []int{3, 3, 1}}, {7, 4, []int{4, 3}},
		{7, 6, []int{6, 1}}, {7, 7, []int{7}}, {7, 8, []int{7}}, {7, 14, []int{7}}, {7, 1<<63 - 1, []int{7}}, {7, 1<<63 - 2, []int{7}},
		{7, 0, []int{7}}, {7, -1, []int{7}}, {7, -2, []int{7}}, {7, -7, []int{7}}, {7, -1 << 63, []int{7}},
		{6, 1, []int{1, 1, 1, 1, 1, 1}}, {6, 2, []int{2, 2, 2}}, {6, 3, []int{3, 3}}, {6, 4, []int{4, 2}}, {6, 5, []int{5, 1}}, {6, 6, []int{6}}, {6, 7, []int{6}},
		// More than the records of a lot are no less a lot here.
		{600, 256, []int{256, 256, 88}}, {600, 300, []int{300, 300}}, {600, 599, []int{599, 1}}, {600, 600, []int{600}}, {600, 601, []int{600}}, {600, 0, []int{600}}, {512, 256, []int{256, 256}}, {513, 256, []int{256, 256, 1}},
	} {
		if got := sizes(Cut(lotOf(x.many), x.size)); !slices.Equal(got, x.want) {
			t.Errorf("%d by %d: %v; want %v", x.many, x.size, got, x.want)
		}
		checkCut(t, lotOf(x.many), x.size)
	}
	for _, l := range [][]api.Span{nil, {}, make([]api.Span, 0, 4), lotOf(3)[:0]} {
		for _, size := range []int{-1 << 63, -1, 0, 1, 2, 1<<63 - 1} {
			if all := Cut(l, size); len(all) != 0 {
				t.Errorf("none by %d: %v", size, sizes(all))
			}
		}
	}
}

// Lt1, Lt2: Cut is the chapter's words, of all counts and sizes up to some: each lot but the last one has as many, none is empty, and put together they are all.
func TestCutAll(t *testing.T) {
	for many := range 40 {
		for size := -3; size < 45; size++ {
			checkCut(t, lotOf(many), size)
		}
		for _, size := range []int{-1 << 63, -1<<63 + 1, -1 << 32, 256, 257, 1 << 32, 1<<62 - 1, 1 << 62, 1<<63 - 2, 1<<63 - 1} {
			checkCut(t, lotOf(many), size)
		}
	}
	for _, many := range []int{255, 256, 257, 511, 512, 513, 1000} {
		for _, size := range []int{-1, 0, 1, 2, 3, 127, 128, 255, 256, 257, many - 1, many, many + 1, 1<<63 - 1} {
			checkCut(t, lotOf(many), size)
		}
	}
}

// Lt1: Cut asks for nothing of records: those that may not be are cut, too.
func TestCutRefused(t *testing.T) {
	l := make([]api.Span, 5)
	for _, all := range []map[string]api.Span{refused(), unread()} {
		for _, x := range all {
			l = append(l, x)
		}
	}
	for size := range len(l) + 2 {
		checkCut(t, l, size)
	}
}

// Lt1, R3: Cut reads nothing behind a list's end, and changes nothing; its lots are new memory, and each its own.
func TestCutAnew(t *testing.T) {
	for size := -1; size < 9; size++ {
		room := lotOf(9)
		checkCut(t, room[:7], size)
		all, want := Cut(room[:7], size), modelCut(room[:7], size)
		for i, x := range all {
			// What is put behind a lot, or into it, must come to stand in none of the others, nor in what was handed in.
			_ = append(x, api.Span{Trace: 99}, api.Span{Trace: 98})
			clear(x)
			if !slices.EqualFunc(all[i+1:], want[i+1:], slices.Equal[[]api.Span]) || !slices.Equal(room, lotOf(9)) {
				t.Errorf("size %d: lot %d", size, i)
			}
		}
		all = Cut(room[:7], size)
		clear(room)
		if !slices.EqualFunc(all, want, slices.Equal[[]api.Span]) {
			t.Errorf("size %d: %+v; want %+v", size, all, want)
		}
	}
}

// Lt2: lots that are put, and taken, and put together again, are all.
func TestCutPutTake(t *testing.T) {
	all := lotOf(1000)
	for _, size := range []int{1, 3, 100, 128, 255, 256} {
		var back []api.Span
		for _, l := range Cut(all, size) {
			s, err := Put(l...)
			if err != api.OK {
				t.Fatal(size, err)
			}
			got, err := Take(s)
			if err != api.OK {
				t.Fatal(size, err)
			}
			back = append(back, got...)
		}
		if !slices.Equal(back, all) {
			t.Errorf("size %d: %d records", size, len(back))
		}
	}
}

// Lt1: the example of the stage.
func TestExample(t *testing.T) {
	if s, err := Put(); s != "\x00" || err != api.OK {
		t.Errorf("%q, %d", s, err)
	}
}
