package rank

import (
	"encoding/binary"
	"fmt"
	"math/rand"
	"regexp"
	"slices"
	"strconv"
	"strings"
	"testing"

	"gossamer/api"
)

// plain is a record that may be, of parts that are all different.
func plain() api.Span {
	return api.Span{Trace: 300, Id: 200, Parent: 100, Rev: 5, Service: "web", Op: "get", Start: 10, Dur: 20}
}

// with is a record as plain, with some of it changed.
func with(change func(x *api.Span)) api.Span {
	x := plain()
	change(&x)
	return x
}

func trace(x *api.Span, n int)      { x.Trace = n }
func id(x *api.Span, n int)         { x.Id = n }
func parent(x *api.Span, n int)     { x.Parent = n }
func rev(x *api.Span, n int)        { x.Rev = n }
func service(x *api.Span, s string) { x.Service = s }
func op(x *api.Span, s string)      { x.Op = s }
func start(x *api.Span, n int)      { x.Start = n }
func dur(x *api.Span, n int)        { x.Dur = n }
func gone(x *api.Span, is bool)     { x.Gone = is }

// each are records as plain, with a part that is set to each of the values.
func each[T any](set func(x *api.Span, to T), l ...T) []api.Span {
	var all []api.Span
	for _, to := range l {
		x := plain()
		set(&x, to)
		all = append(all, x)
	}
	return all
}

// rises are lists of records of one Rev, all of which may be: each one's bytes stand behind those ahead of it.
func rises() map[string][]api.Span {
	// By bytes: 1, 127, 128 (80 01), 256 (80 02), 16384 (80 80 01), 129 (81 01), 257 (81 02), 16385 (81 80 01), 2^63 - 2 (fe ff ..), 255 (ff 01), 511 (ff 03), 2^63 - 1 (ff ff ..).
	numbers := []int{1, 2, 127, 128, 256, 384, 16384, 129, 257, 16385, 1<<63 - 2, 255, 511, 1<<63 - 1}
	fromZero := append([]int{0}, numbers...)
	// Of the same count letter by letter, else by the count.
	names := []string{"!", "A", "Z", "a", "b", "~", "!!", "aa", "ab", "ba", "abc", "abd", "wea", "web", "wec", "abcd", "webs", strings.Repeat("a", 24), strings.Repeat("~", 24)}
	// By bytes: 0, -1 (01), 1 (02), -2 (03), -64 (7f), 64 (80 01), 128 (80 02), -65 (81 01), -129 (81 02), 65 (82 01).
	starts := []int{0, -1, 1, -2, 2, 63, -64, 64, 128, 8192, -65, -129, 65, 1<<62 - 2, -1<<62 + 1, 1<<62 - 1, -1 << 62}
	slices.SortFunc(starts, func(a, b int) int { return strings.Compare(signed(a), signed(b)) })
	// 2^62 is 80 80 .. 01, and what is one less begins with fe.
	durs := []int{0, 1, 2, 62, 63, 64, 128, 8192, 1 << 62, 65, 129, 66, 127, 255, 1<<62 - 1}
	return map[string][]api.Span{
		"Trace": each(trace, numbers...), "Id": each(id, numbers...), "Parent": each(parent, fromZero...),
		"Service": each(service, names...), "Op": each(op, names...),
		"Start": each(start, starts...), "Dur": each(dur, durs...), "Gone": each(gone, false, true),
	}
}

// firsts are pairs of records that differ in two parts, next to one another, that tell otherwise: the latter one's bytes stand behind by the part that is first.
func firsts() [][2]api.Span {
	pair := func(low, high func(x *api.Span)) [2]api.Span { return [2]api.Span{with(low), with(high)} }
	return [][2]api.Span{
		pair(func(x *api.Span) { x.Trace, x.Id = 1, 2 }, func(x *api.Span) { x.Trace, x.Id = 2, 1 }),
		pair(func(x *api.Span) { x.Id, x.Parent = 1, 2 }, func(x *api.Span) { x.Id, x.Parent = 2, 1 }),
		pair(func(x *api.Span) { x.Parent, x.Service = 1, "b" }, func(x *api.Span) { x.Parent, x.Service = 2, "a" }),
		pair(func(x *api.Span) { x.Service, x.Op = "a", "b" }, func(x *api.Span) { x.Service, x.Op = "b", "a" }),
		pair(func(x *api.Span) { x.Service, x.Op = "a", "bbb" }, func(x *api.Span) { x.Service, x.Op = "aa", "b" }),
		pair(func(x *api.Span) { x.Op, x.Start = "b", 2 }, func(x *api.Span) { x.Op, x.Start = "aa", 1 }),
		pair(func(x *api.Span) { x.Start, x.Dur = 1, 2 }, func(x *api.Span) { x.Start, x.Dur = -2, 1 }),
		pair(func(x *api.Span) { x.Dur, x.Gone = 1, true }, func(x *api.Span) { x.Dur, x.Gone = 2, false }),
		pair(func(x *api.Span) { x.Start, x.Dur, x.Gone = 1, 9, true }, func(x *api.Span) { x.Start, x.Dur, x.Gone = 2, -9, false }),
		pair(func(x *api.Span) { x.Trace, x.Dur, x.Gone = 256, 9, true }, func(x *api.Span) { x.Trace, x.Dur, x.Gone = 129, 0, false }),
	}
}

// sames are lists of records of which Kept are the same: their Durs are held at 0, or at 2^62.
func sames() [][]api.Span {
	return [][]api.Span{
		each(dur, 0, -1, -9, -1<<62, -1<<63+1, -1<<63),
		each(dur, 1<<62, 1<<62+1, 1<<62+9, 1<<63-2, 1<<63-1),
	}
}

// refused are records that may not be, of one Rev, but for those of which it is the Rev.
func refused() []api.Span {
	l := slices.Concat(each(trace, 0, -1, -1<<63), each(id, 0, -1, -1<<63), each(parent, -1, -1<<63))
	for _, set := range []func(*api.Span, string){service, op} {
		l = append(l, each(set, "", " ", "a b", "a\x7f", "\x00", "\xff", "é", strings.Repeat("a", 25), strings.Repeat("a", 100_000))...)
	}
	l = append(l, each(start, -1<<62-1, -1<<63, 1<<62, 1<<63-1)...)
	l = append(l, with(func(x *api.Span) { x.Trace, x.Gone = 0, true }))
	l = append(l, with(func(x *api.Span) { x.Trace, x.Dur = 0, -1 }), with(func(x *api.Span) { x.Trace, x.Dur = 0, 1<<62+1 }))
	return append(l, api.Span{}, api.Span{Rev: 5}, api.Span{Rev: 5, Dur: -1})
}

// mixed are records of all kinds.
func mixed() []api.Span {
	l := []api.Span{plain()}
	all := rises()
	for _, what := range []string{"Trace", "Id", "Parent", "Service", "Op", "Start", "Dur", "Gone"} {
		l = append(l, all[what]...)
	}
	for _, x := range firsts() {
		l = append(l, x[0], x[1])
	}
	for _, x := range sames() {
		l = append(l, x...)
	}
	l = append(l, refused()...)
	return append(l, each(rev, revs()...)...)
}

// revs are revisions, from the least on.
func revs() []int {
	return []int{-1 << 63, -1<<63 + 1, -1 << 32, -256, -129, -2, -1, 0, 1, 2, 4, 6, 127, 128, 129, 255, 256, 257, 16384, 1<<32 + 1, 1<<63 - 2, 1<<63 - 1}
}

// letters are names, by layer 9's words.
var letters = regexp.MustCompile(`\A[\x21-\x7e]{1,24}\z`)

// signed are the bytes of a number that may be below 0, by the library.
func signed(n int) string { return string(binary.AppendVarint(nil, int64(n))) }

// modelMay is layer 9's words, one by one.
func modelMay(x api.Span) bool {
	ids := x.Trace > 0 && x.Id > 0 && x.Parent >= 0 && x.Rev >= 0
	names := letters.MatchString(x.Service) && letters.MatchString(x.Op)
	return ids && names && -1<<62 <= x.Start && x.Start <= 1<<62-1
}

// modelKept is layer 3's words, one by one.
func modelKept(x api.Span) api.Span {
	if x.Dur < 0 {
		x.Dur = 0
	}
	if x.Dur > 1<<62 {
		x.Dur = 1 << 62
	}
	return x
}

// modelBytes are a record's bytes, by the library's numbers.
func modelBytes(x api.Span) string {
	if !modelMay(x) {
		return ""
	}
	x = modelKept(x)
	var b []byte
	for _, n := range []int{x.Trace, x.Id, x.Parent, x.Rev} {
		b = binary.AppendUvarint(b, uint64(n))
	}
	for _, s := range []string{x.Service, x.Op} {
		b = append(binary.AppendUvarint(b, uint64(len(s))), s...)
	}
	b = append(b, signed(x.Start)+signed(x.Dur)...)
	if x.Gone {
		return string(append(b, 1))
	}
	return string(append(b, 0))
}

// behind tells whether a text stands behind another one, byte by byte.
func behind(a, b string) bool {
	for i := range min(len(a), len(b)) {
		if a[i] != b[i] {
			return a[i] > b[i]
		}
	}
	return len(a) > len(b)
}

// modelNewer is the chapter's words, one by one.
func modelNewer(a, b api.Span) bool {
	return a.Rev > b.Rev || a.Rev == b.Rev && behind(modelBytes(a), modelBytes(b))
}

// modelSame is the chapter's words, one by one.
func modelSame(a, b api.Span) bool { return modelKept(a) == modelKept(b) }

// modelBest is the chapter's words, one by one.
func modelBest(l ...api.Span) (api.Span, bool) {
	for _, x := range l {
		if !slices.ContainsFunc(l, func(y api.Span) bool { return modelNewer(y, x) }) {
			return modelKept(x), true
		}
	}
	return api.Span{}, false
}

// short is a record as a text that is not too long.
func short(x api.Span) string {
	s := strconv.QuoteToASCII(fmt.Sprintf("%+v", x))
	return s[:min(len(s), 300)]
}

// checkAhead tells when the first record isn't newer than the second one, just so.
func checkAhead(t *testing.T, a, b api.Span) {
	t.Helper()
	if !Newer(a, b) || Newer(b, a) {
		t.Errorf("Newer of %s and %s: %v, %v; want true, false", short(a), short(b), Newer(a, b), Newer(b, a))
	}
}

// checkLevel tells when one of two records is newer.
func checkLevel(t *testing.T, a, b api.Span) {
	t.Helper()
	if Newer(a, b) || Newer(b, a) {
		t.Errorf("Newer of %s and %s: %v, %v; want false, false", short(a), short(b), Newer(a, b), Newer(b, a))
	}
}

// checkSame tells when it is not told, both ways round, whether records are the same.
func checkSame(t *testing.T, a, b api.Span, want bool) {
	t.Helper()
	if Same(a, b) != want || Same(b, a) != want {
		t.Errorf("Same of %s and %s: %v, %v; want %v", short(a), short(b), Same(a, b), Same(b, a), want)
	}
}

// checkBest tells when the best of records is another one.
func checkBest(t *testing.T, want api.Span, l ...api.Span) {
	t.Helper()
	if x, ok := Best(l...); x != want || !ok {
		t.Errorf("Best of %d records: %s, %v; want %s, true", len(l), short(x), ok, short(want))
	}
}

// orders gives a list in each order.
func orders(l []api.Span, give func(l []api.Span)) {
	var fill func(done, left []api.Span)
	fill = func(done, left []api.Span) {
		if len(left) == 0 {
			give(done)
			return
		}
		for i, x := range left {
			fill(append(slices.Clone(done), x), slices.Delete(slices.Clone(left), i, i+1))
		}
	}
	fill(nil, l)
}

// drawn is a record of few values, so that many are alike in some parts.
func drawn(r *rand.Rand) api.Span {
	one := func(l ...int) int { return l[r.Intn(len(l))] }
	name := func(l ...string) string { return l[r.Intn(len(l))] }
	return api.Span{
		Trace: one(1, 1, 129, 256), Id: one(1, 1, 1, 2), Parent: one(0, 0, 0, 1), Rev: one(0, 1, 1, 1, 2),
		Service: name("a", "a", "b", "ab"), Op: name("a", "a", "a", "b", "aa"),
		Start: one(0, 0, -1, 1), Dur: one(-1, 0, 0, 1, 65, 128, 1<<62-1, 1<<62, 1<<62+1), Gone: r.Intn(3) == 0,
	}
}

// drawnAny is a record of few values that, now and then, may not be.
func drawnAny(r *rand.Rand) api.Span {
	x := drawn(r)
	switch r.Intn(12) {
	case 0:
		x.Trace = 0
	case 1:
		x.Rev = -1
	case 2:
		x.Op = ""
	case 3:
		x.Start = 1 << 62
	}
	return x
}

// Rk1: Newer, by Rev alone, whatever the other parts are, and whether the records may be or not.
func TestNewerByRev(t *testing.T) {
	others := append(refused(), plain(), with(func(x *api.Span) { x.Trace = 1 }), with(func(x *api.Span) { x.Trace = 1<<63 - 1 }), with(func(x *api.Span) { x.Gone = true }), with(func(x *api.Span) { x.Dur = -1 }))
	for _, a := range others {
		for _, b := range others {
			for i, high := range revs() {
				for _, low := range revs()[:i] {
					a.Rev, b.Rev = high, low
					checkAhead(t, a, b)
					checkSame(t, a, b, false)
				}
			}
		}
	}
	checkAhead(t, api.Span{Rev: 3}, api.Span{Rev: 2})
}

// Rk1: Newer, of one Rev, by the bytes of each part in turn.
func TestNewerByBytes(t *testing.T) {
	for what, l := range rises() {
		for i, a := range l {
			for _, b := range l[:i] {
				if !modelMay(a) || !modelMay(b) {
					t.Errorf("%s: %s, %s", what, short(a), short(b))
				}
				checkAhead(t, a, b)
				checkSame(t, a, b, false)
			}
		}
	}
}

// Rk1: Newer, of numbers and names whose bytes stand otherwise than they do themselves, by bytes that the chapters tell.
func TestNewerOtherWayRound(t *testing.T) {
	numbers := []struct{ ahead, behind int }{{129, 256}, {129, 1 << 62}, {255, 256}, {511, 1 << 62}, {16386, 1<<62 + 1}, {1<<62 - 1, 1 << 62}}
	for _, set := range []func(*api.Span, int){trace, id, parent} {
		for _, x := range numbers {
			l := each(set, x.ahead, x.behind)
			checkAhead(t, l[0], l[1])
		}
	}
	for _, x := range []struct{ ahead, behind int }{{-1, 0}, {1, -1}, {-2, 1}, {64, -64}, {-65, 128}, {-1 << 62, 1<<62 - 1}, {-1 << 62, 0}, {1<<62 - 1, 0}} {
		l := each(start, x.ahead, x.behind)
		checkAhead(t, l[0], l[1])
	}
	for _, x := range []struct{ ahead, behind int }{{65, 128}, {65, 1 << 62}, {65, 1<<63 - 1}, {1<<62 - 1, 1 << 62}, {1<<62 - 1, 1<<62 + 1}, {1<<62 - 1, 1<<63 - 1}, {1, -1}, {1, -1 << 63}, {1 << 62, -1}, {1<<63 - 1, -1 << 63}} {
		l := each(dur, x.ahead, x.behind)
		checkAhead(t, l[0], l[1])
	}
	for _, set := range []func(*api.Span, string){service, op} {
		for _, x := range []struct{ ahead, behind string }{{"ab", "a"}, {"aa", "b"}, {"b", "a"}, {"webs", "web"}, {"abcd", "web"}, {strings.Repeat("!", 24), strings.Repeat("~", 23)}} {
			l := each(set, x.ahead, x.behind)
			checkAhead(t, l[0], l[1])
		}
	}
}

// Rk1: Newer, of one Rev, by the part that is first of those that differ.
func TestNewerByFirstPart(t *testing.T) {
	for _, x := range firsts() {
		checkAhead(t, x[1], x[0])
		checkSame(t, x[1], x[0], false)
	}
}

// Rk1: Newer and Same, of a record and itself, and of records of which Kept are the same.
func TestLevel(t *testing.T) {
	for _, x := range mixed() {
		checkLevel(t, x, x)
		checkSame(t, x, x, true)
	}
	for _, l := range sames() {
		for _, a := range l {
			for _, b := range l {
				checkLevel(t, a, b)
				checkSame(t, a, b, true)
			}
			for _, b := range slices.Concat(each(dur, 1, 1<<62-1), []api.Span{plain()}) {
				checkSame(t, a, b, false)
			}
		}
	}
}

// Rk1: Newer and Same, of one that may not be and one that may, and of two that may not be, of one Rev.
func TestMayNotBe(t *testing.T) {
	least := api.Span{Trace: 1, Id: 1, Rev: 5, Service: "!", Op: "!"}
	for _, a := range refused() {
		for _, b := range []api.Span{plain(), least, with(func(x *api.Span) { x.Dur = -1 }), with(func(x *api.Span) { x.Gone = true })} {
			b.Rev = a.Rev
			checkAhead(t, b, a)
			checkSame(t, a, b, false)
		}
		for _, b := range refused() {
			b.Rev = a.Rev
			checkLevel(t, a, b)
			checkSame(t, a, b, modelSame(a, b))
		}
	}
	// By a Rev below 0 none may be, so that no other part counts.
	for _, l := range rises() {
		for _, a := range l {
			b := l[0]
			a.Rev, b.Rev = -1, -1
			checkLevel(t, a, b)
			checkSame(t, a, b, a == b)
		}
	}
}

// Rk1: Same, by each part alone, of records that may not be.
func TestSameMayNotBe(t *testing.T) {
	x := api.Span{Trace: -1, Id: -1, Parent: -1, Rev: -1, Start: -1 << 63, Dur: -1}
	for _, y := range []struct {
		change func(x *api.Span)
		want   bool
	}{
		{func(x *api.Span) {}, true},
		{func(x *api.Span) { x.Trace = -2 }, false},
		{func(x *api.Span) { x.Id = -2 }, false},
		{func(x *api.Span) { x.Parent = -2 }, false},
		{func(x *api.Span) { x.Rev = -2 }, false},
		{func(x *api.Span) { x.Service = " " }, false},
		{func(x *api.Span) { x.Op = " " }, false},
		{func(x *api.Span) { x.Start++ }, false},
		{func(x *api.Span) { x.Dur = -2 }, true},
		{func(x *api.Span) { x.Dur = 0 }, true},
		{func(x *api.Span) { x.Dur = 1 }, false},
		{func(x *api.Span) { x.Gone = true }, false},
	} {
		z := x
		y.change(&z)
		checkSame(t, x, z, y.want)
	}
}

// Rk1, Rk2: Newer and Same are the chapter's words, of any two; of two that may be, and are not the same, one is newer, and just one.
func TestPairs(t *testing.T) {
	all := mixed()
	r := rand.New(rand.NewSource(1))
	for range 300 {
		all = append(all, drawnAny(r))
	}
	for _, a := range all {
		for _, b := range all {
			if Newer(a, b) != modelNewer(a, b) {
				t.Errorf("Newer of %s and %s: %v", short(a), short(b), Newer(a, b))
			}
			if Same(a, b) != modelSame(a, b) {
				t.Errorf("Same of %s and %s: %v", short(a), short(b), Same(a, b))
			}
			if modelMay(a) && modelMay(b) && !Same(a, b) && Newer(a, b) == Newer(b, a) {
				t.Errorf("%s and %s: both newer: %v", short(a), short(b), Newer(a, b))
			}
			if Same(a, b) && (Newer(a, b) || Newer(b, a)) {
				t.Errorf("%s and %s: the same, and newer", short(a), short(b))
			}
		}
	}
}

// Rk2: what is newer than what is newer is newer, whether the records may be or not.
func TestNewerThanNewer(t *testing.T) {
	all := []api.Span{}
	for i, x := range mixed() {
		if i%3 == 0 {
			all = append(all, x)
		}
	}
	r := rand.New(rand.NewSource(2))
	for range 40 {
		all = append(all, drawnAny(r))
	}
	newer := make([][]bool, len(all))
	for i, a := range all {
		for _, b := range all {
			newer[i] = append(newer[i], Newer(a, b))
		}
	}
	many := 0
	for i := range all {
		for j := range all {
			for k := range all {
				if newer[i][j] && newer[j][k] {
					many++
					if !newer[i][k] {
						t.Errorf("%s, %s, %s", short(all[i]), short(all[j]), short(all[k]))
					}
				}
				// What is level with what is level is level: none of them goes ahead of but one of the others.
				if !newer[i][j] && !newer[j][k] && newer[i][k] {
					t.Errorf("%s, %s, %s: not newer", short(all[i]), short(all[j]), short(all[k]))
				}
			}
		}
	}
	if many < 1000 {
		t.Error(many)
	}
}

// Rk1: Best, of no record.
func TestBestOfNone(t *testing.T) {
	if x, ok := Best(); x != (api.Span{}) || ok {
		t.Errorf("%+v, %v", x, ok)
	}
	for _, l := range [][]api.Span{nil, {}, make([]api.Span, 0, 4), mixed()[:0]} {
		if x, ok := Best(l...); x != (api.Span{}) || ok {
			t.Errorf("%+v, %v", x, ok)
		}
	}
}

// Rk1: Best, of one record, and of it several times: Kept of it, whether it may be or not.
func TestBestOfOne(t *testing.T) {
	for _, x := range mixed() {
		checkBest(t, modelKept(x), x)
		checkBest(t, modelKept(x), x, x)
		checkBest(t, modelKept(x), x, x, x)
	}
	checkBest(t, api.Span{}, api.Span{})
	checkBest(t, api.Span{Dur: 1 << 62}, api.Span{Dur: 1<<63 - 1})
	checkBest(t, with(func(x *api.Span) { x.Dur = 0 }), with(func(x *api.Span) { x.Dur = -1 << 63 }))
}

// Rk1: Best, of two: the newer one, else the first one, and Kept of it.
func TestBestOfTwo(t *testing.T) {
	for _, a := range mixed() {
		for _, b := range mixed() {
			want := a
			if modelNewer(b, a) {
				want = b
			}
			checkBest(t, modelKept(want), a, b)
		}
	}
}

// Rk1: Best, with the newest one first, within and last, by its Rev, by its bytes, and with a Dur that is not kept.
func TestBestAtEachPlace(t *testing.T) {
	for _, best := range []api.Span{
		with(func(x *api.Span) { x.Rev = 6 }),
		with(func(x *api.Span) { x.Rev, x.Dur = 6, 0 }),
		with(func(x *api.Span) { x.Rev, x.Dur = 1<<63-1, -7 }),
		with(func(x *api.Span) { x.Trace = 1<<63 - 1 }),
		with(func(x *api.Span) { x.Gone = true }),
		with(func(x *api.Span) { x.Dur = 1<<62 - 1 }),
		with(func(x *api.Span) { x.Op, x.Dur = "gets", 1<<63-1 }),
		with(func(x *api.Span) { x.Rev, x.Trace = 6, 0 }),
	} {
		others := []api.Span{plain(), with(func(x *api.Span) { x.Rev, x.Gone = 4, true }), with(func(x *api.Span) { x.Trace = 0 }), plain(), with(func(x *api.Span) { x.Dur = 0 }), with(func(x *api.Span) { x.Op = "gea" })}
		for at := range len(others) + 1 {
			l := slices.Insert(slices.Clone(others), at, best)
			checkBest(t, modelKept(best), l...)
			checkBest(t, modelKept(best), append(l, l...)...)
		}
	}
}

// Rk1: Best, of records of which Kept are the same: they are told as one.
func TestBestOfSames(t *testing.T) {
	for _, l := range sames() {
		want := modelKept(l[0])
		checkBest(t, want, l...)
		orders(l[:5], func(l []api.Span) { checkBest(t, want, l...) })
		lesser := with(func(x *api.Span) { x.Rev, x.Gone = 4, true })
		checkBest(t, want, append(slices.Clone(l), lesser)...)
		checkBest(t, want, append([]api.Span{lesser}, l...)...)
	}
}

// Rk1: Best, of records that may not be: of one Rev the first one, and behind all that may be; of a greater Rev ahead of them.
func TestBestMayNotBe(t *testing.T) {
	one := with(func(x *api.Span) { x.Trace = 0 })
	two := with(func(x *api.Span) { x.Trace, x.Dur, x.Gone = -1, -5, true })
	more := with(func(x *api.Span) { x.Rev, x.Op, x.Dur = 6, "", -5 })
	below := with(func(x *api.Span) { x.Rev = -1 })
	least := api.Span{Trace: 1, Id: 1, Rev: 5, Service: "!", Op: "!"}
	for _, x := range []struct {
		want api.Span
		l    []api.Span
	}{
		{one, []api.Span{one, two}},
		{modelKept(two), []api.Span{two, one}},
		{modelKept(two), []api.Span{two, one, two}},
		{one, []api.Span{below, one, two, below}},
		{below, []api.Span{below, with(func(x *api.Span) { x.Rev, x.Trace = -1, 400 })}},
		{below, []api.Span{below, with(func(x *api.Span) { x.Rev = -2 })}},
		{below, []api.Span{with(func(x *api.Span) { x.Rev = -2 }), below}},
		{least, []api.Span{one, least, two}},
		{least, []api.Span{least, one, two}},
		{least, []api.Span{two, one, least}},
		{modelKept(more), []api.Span{least, more, plain()}},
		{modelKept(more), []api.Span{more, least, one}},
		{modelKept(more), []api.Span{one, least, more}},
		{api.Span{}, []api.Span{below, {}, with(func(x *api.Span) { x.Rev, x.Trace = 0, 0 })}},
	} {
		checkBest(t, x.want, x.l...)
	}
}

// Rk1, Rk2: Best is the chapter's words, of drawn records, in their order.
func TestBestModel(t *testing.T) {
	r := rand.New(rand.NewSource(3))
	for range 5_000 {
		l := make([]api.Span, r.Intn(9))
		for i := range l {
			l[i] = drawnAny(r)
		}
		want, wantOk := modelBest(l...)
		if x, ok := Best(l...); x != want || ok != wantOk {
			t.Errorf("%+v: %+v, %v; want %+v, %v", l, x, ok, want, wantOk)
		}
	}
}

// Rk2: Best, of records that may be, tells the same of each order, however often each stands there.
func TestBestOfAnyOrder(t *testing.T) {
	r := rand.New(rand.NewSource(4))
	lists := [][]api.Span{}
	for _, l := range rises() {
		lists = append(lists, l[:min(len(l), 5)], l[max(0, len(l)-5):])
	}
	for range 20 {
		lists = append(lists, []api.Span{drawn(r), drawn(r), drawn(r), drawn(r), drawn(r)})
	}
	for _, l := range lists {
		want, _ := modelBest(l...)
		orders(l, func(l []api.Span) {
			checkBest(t, want, l...)
			again := slices.Clone(l)
			for range r.Intn(5) {
				again = slices.Insert(again, r.Intn(len(again)+1), l[r.Intn(len(l))])
			}
			checkBest(t, want, again...)
		})
	}
}

// Rk2: Best, whichever are put together first.
func TestBestOfBests(t *testing.T) {
	r := rand.New(rand.NewSource(5))
	for range 3_000 {
		l := make([]api.Span, 2+r.Intn(6))
		for i := range l {
			l[i] = drawn(r)
		}
		want, _ := modelBest(l...)
		for at := 1; at < len(l); at++ {
			a, _ := Best(l[:at]...)
			b, _ := Best(l[at:]...)
			checkBest(t, want, a, b)
			checkBest(t, want, b, a)
			checkBest(t, want, append([]api.Span{b}, l[:at]...)...)
			checkBest(t, want, append(slices.Clone(l[at:]), a)...)
		}
		one, two := l[0], l[len(l)-1]
		for _, x := range l[1:] {
			one, _ = Best(one, x)
		}
		for i := len(l) - 2; i >= 0; i-- {
			two, _ = Best(l[i], two)
		}
		if one != want || two != want {
			t.Errorf("%+v: %+v, %+v; want %+v", l, one, two, want)
		}
	}
}

// Rk1, R3: Best reads nothing behind a list's end, changes no list, and tells a record of its own.
func TestBestKeepsList(t *testing.T) {
	newest := with(func(x *api.Span) { x.Rev = 1<<63 - 1 })
	low := with(func(x *api.Span) { x.Dur = -9 })
	room := []api.Span{low, with(func(x *api.Span) { x.Dur = -8 }), with(func(x *api.Span) { x.Rev, x.Dur = 4, 1<<63-1 }), newest, newest}
	ahead := slices.Clone(room)
	checkBest(t, modelKept(low), room[:3]...)
	checkBest(t, modelKept(low), room[:1]...)
	if _, ok := Best(room[:0]...); ok {
		t.Error("a record of none")
	}
	checkBest(t, newest, room...)
	if !slices.Equal(room, ahead) {
		t.Errorf("%+v; want %+v", room, ahead)
	}
}

// Rk1: the example of the stage.
func TestExample(t *testing.T) {
	two, three := api.Span{Trace: 1, Id: 1, Rev: 2, Service: "s", Op: "o", Gone: true}, api.Span{Trace: 1, Id: 1, Rev: 3, Service: "s", Op: "o"}
	checkAhead(t, three, two)
	checkBest(t, three, two, three)
	checkBest(t, three, three, two)
}
