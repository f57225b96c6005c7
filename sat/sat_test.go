package sat

import (
	"math/big"
	"math/rand"
	"slices"
	"testing"

	"gossamer/api"
)

// edges are numbers near the ends, near 0, and near 2^62 and minus that, rising, each once.
func edges() []int {
	var l []int
	for i := range 4 {
		l = append(l, api.MinInt+i, api.MaxInt-i)
		for _, n := range []int{-1 << 62, -1 << 61, -1 << 32, 0, 1 << 32, 1 << 61, 1 << 62} {
			l = append(l, n-i, n+i)
		}
	}
	slices.Sort(l)
	return slices.Compact(l)
}

// drawn are numbers of every length, about as many below 0 as not.
func drawn(r *rand.Rand) int { return int(r.Uint64()) >> r.Intn(64) }

// held is a number without ends, held at the ends: the chapter's words, by numbers that can't wrap round.
func held(n *big.Int) int {
	switch {
	case n.Cmp(big.NewInt(api.MinInt)) < 0:
		return api.MinInt
	case n.Cmp(big.NewInt(api.MaxInt)) > 0:
		return api.MaxInt
	}
	return int(n.Int64())
}

func modelAdd(a, b int) int {
	return held(new(big.Int).Add(big.NewInt(int64(a)), big.NewInt(int64(b))))
}

func modelSub(a, b int) int {
	return held(new(big.Int).Sub(big.NewInt(int64(a)), big.NewInt(int64(b))))
}

// modelClamp is the chapter's words, one by one.
func modelClamp(n, low, high int) int {
	switch {
	case high < low, n < low:
		return low
	case n > high:
		return high
	}
	return n
}

type pair struct{ a, b, want int }

// Sa1: Add, at neither end, just at one, and beyond it.
func TestAdd(t *testing.T) {
	for _, x := range []pair{
		{0, 0, 0},
		{1, 2, 3},
		{-1, -2, -3},
		{5, -7, -2},
		{-5, 7, 2},
		{api.MaxInt, api.MinInt, -1},
		{api.MinInt, api.MaxInt, -1},
		{1 << 62, -1 << 62, 0},

		{api.MaxInt - 2, 1, api.MaxInt - 1},
		{api.MaxInt - 1, 1, api.MaxInt},
		{1, api.MaxInt - 1, api.MaxInt},
		{api.MaxInt, 0, api.MaxInt},
		{0, api.MaxInt, api.MaxInt},
		{1<<62 - 1, 1 << 62, api.MaxInt},
		{api.MaxInt, -1, api.MaxInt - 1},

		{api.MaxInt, 1, api.MaxInt},
		{1, api.MaxInt, api.MaxInt},
		{1 << 62, 1 << 62, api.MaxInt},
		{api.MaxInt, api.MaxInt, api.MaxInt},

		{api.MinInt + 2, -1, api.MinInt + 1},
		{api.MinInt + 1, -1, api.MinInt},
		{-1, api.MinInt + 1, api.MinInt},
		{api.MinInt, 0, api.MinInt},
		{0, api.MinInt, api.MinInt},
		{-1 << 62, -1 << 62, api.MinInt},
		{api.MinInt, 1, api.MinInt + 1},

		{api.MinInt, -1, api.MinInt},
		{-1, api.MinInt, api.MinInt},
		{-1<<62 - 1, -1 << 62, api.MinInt},
		{api.MinInt, api.MinInt, api.MinInt},
	} {
		if n := Add(x.a, x.b); n != x.want {
			t.Errorf("Add(%d, %d) = %d; want %d", x.a, x.b, n, x.want)
		}
	}
}

// Sa1: Sub, likewise, and the least number taken away.
func TestSub(t *testing.T) {
	for _, x := range []pair{
		{0, 0, 0},
		{3, 2, 1},
		{2, 3, -1},
		{-5, -7, 2},
		{-5, 7, -12},
		{api.MaxInt, api.MaxInt, 0},
		{api.MinInt, api.MinInt, 0},
		{1 << 62, 1 << 62, 0},

		{api.MaxInt - 2, -1, api.MaxInt - 1},
		{api.MaxInt - 1, -1, api.MaxInt},
		{0, -api.MaxInt, api.MaxInt},
		{api.MaxInt, 0, api.MaxInt},
		{1<<62 - 1, -1 << 62, api.MaxInt},
		{api.MaxInt, 1, api.MaxInt - 1},

		{api.MaxInt, -1, api.MaxInt},
		{1, -api.MaxInt, api.MaxInt},
		{1 << 62, -1 << 62, api.MaxInt},
		{api.MaxInt, -api.MaxInt, api.MaxInt},

		{api.MinInt + 2, 1, api.MinInt + 1},
		{api.MinInt + 1, 1, api.MinInt},
		{-1, api.MaxInt, api.MinInt},
		{api.MinInt, 0, api.MinInt},
		{-1 << 62, 1 << 62, api.MinInt},
		{api.MinInt, -1, api.MinInt + 1},

		{api.MinInt, 1, api.MinInt},
		{-2, api.MaxInt, api.MinInt},
		{-1<<62 - 1, 1 << 62, api.MinInt},
		{api.MinInt, api.MaxInt, api.MinInt},

		{-2, api.MinInt, api.MaxInt - 1},
		{-1, api.MinInt, api.MaxInt},
		{0, api.MinInt, api.MaxInt},
		{1, api.MinInt, api.MaxInt},
		{api.MaxInt, api.MinInt, api.MaxInt},
		{api.MinInt + 1, api.MinInt, 1},
		{0, api.MaxInt, api.MinInt + 1},
	} {
		if n := Sub(x.a, x.b); n != x.want {
			t.Errorf("Sub(%d, %d) = %d; want %d", x.a, x.b, n, x.want)
		}
	}
}

// Sa1: Clamp, with the one below the other, the same, and above it.
func TestClamp(t *testing.T) {
	for _, x := range []struct{ n, low, high, want int }{
		{5, 1, 9, 5},
		{1, 1, 9, 1},
		{9, 1, 9, 9},
		{0, 1, 9, 1},
		{10, 1, 9, 9},
		{-5, -9, -1, -5},
		{0, -9, -1, -1},
		{api.MinInt, -1, 1, -1},
		{api.MaxInt, -1, 1, 1},
		{0, api.MinInt, api.MaxInt, 0},
		{api.MinInt, api.MinInt, api.MaxInt, api.MinInt},
		{api.MaxInt, api.MinInt, api.MaxInt, api.MaxInt},

		{4, 5, 5, 5},
		{5, 5, 5, 5},
		{6, 5, 5, 5},
		{0, api.MinInt, api.MinInt, api.MinInt},
		{0, api.MaxInt, api.MaxInt, api.MaxInt},

		{0, 9, 1, 9},
		{1, 9, 1, 9},
		{5, 9, 1, 9},
		{9, 9, 1, 9},
		{99, 9, 1, 9},
		{0, 6, 5, 6},
		{0, api.MaxInt, api.MinInt, api.MaxInt},
		{api.MinInt, 0, -1, 0},
		{api.MaxInt, 0, -1, 0},
	} {
		if n := Clamp(x.n, x.low, x.high); n != x.want {
			t.Errorf("Clamp(%d, %d, %d) = %d; want %d", x.n, x.low, x.high, n, x.want)
		}
	}
}

// span is a span of that start and duration, all of whose other parts tell them apart from zero ones.
func span(start, dur int) api.Span {
	return api.Span{Trace: 1, Id: -2, Parent: api.MaxInt, Rev: api.MinInt, Service: "s", Op: "\xff", Start: start, Dur: dur, Gone: true}
}

// durs are durations below 0, that may be, and above 2^62, each with what is kept of it.
var durs = []struct{ dur, kept int }{
	{api.MinInt, 0},
	{-1 << 62, 0},
	{-7, 0},
	{-1, 0},
	{0, 0},
	{1, 1},
	{7, 7},
	{1<<62 - 1, 1<<62 - 1},
	{1 << 62, 1 << 62},
	{1<<62 + 1, 1 << 62},
	{api.MaxInt, 1 << 62},
}

// Sa1: Kept holds the duration, and leaves all else as it is, whatever the start.
func TestKept(t *testing.T) {
	for _, start := range edges() {
		for _, d := range durs {
			if x := Kept(span(start, d.dur)); x != span(start, d.kept) {
				t.Errorf("Kept of start %d, duration %d = %v", start, d.dur, x)
			}
		}
	}
	for _, d := range durs {
		if x := Kept(api.Span{Dur: d.dur}); x != (api.Span{Dur: d.kept}) {
			t.Errorf("Kept of duration %d alone = %v", d.dur, x)
		}
	}
}

// Sa1: End, at starts near both ends.
func TestEnd(t *testing.T) {
	for _, x := range []struct{ start, dur, want int }{
		{0, 0, 0},
		{5, 7, 12},
		{-5, 7, 2},
		{-7, 5, -2},
		{5, -7, 5},
		{5, api.MinInt, 5},
		{0, api.MaxInt, 1 << 62},

		{api.MaxInt, -1, api.MaxInt},
		{api.MaxInt, 0, api.MaxInt},
		{api.MaxInt, 1, api.MaxInt},
		{api.MaxInt, 1 << 62, api.MaxInt},
		{api.MaxInt, api.MaxInt, api.MaxInt},
		{api.MaxInt - 2, 1, api.MaxInt - 1},
		{api.MaxInt - 1, 1, api.MaxInt},
		{api.MaxInt - 1, 2, api.MaxInt},
		{api.MaxTime, -1, api.MaxTime},
		{api.MaxTime, 1<<62 - 1, api.MaxInt - 1},
		{api.MaxTime, 1 << 62, api.MaxInt},
		{api.MaxTime, api.MaxInt, api.MaxInt},
		{api.MaxTime + 1, 1 << 62, api.MaxInt},
		{api.MaxTime + 1, 1<<62 - 1, api.MaxInt},

		{api.MinInt, -1, api.MinInt},
		{api.MinInt, api.MinInt, api.MinInt},
		{api.MinInt, 0, api.MinInt},
		{api.MinInt, 1, api.MinInt + 1},
		{api.MinInt, 1 << 62, -1 << 62},
		{api.MinInt, api.MaxInt, -1 << 62},
		{api.MinTime, -1, api.MinTime},
		{api.MinTime, 0, api.MinTime},
		{api.MinTime, 1 << 62, 0},
		{api.MinTime, api.MaxInt, 0},
	} {
		if n := End(span(x.start, x.dur)); n != x.want {
			t.Errorf("End of start %d, duration %d = %d; want %d", x.start, x.dur, n, x.want)
		}
	}
}

// checkModel holds all answers to three numbers against the model's.
func checkModel(t *testing.T, a, b, c int) {
	t.Helper()
	if n, want := Add(a, b), modelAdd(a, b); n != want {
		t.Fatalf("Add(%d, %d) = %d; want %d", a, b, n, want)
	}
	if n, want := Sub(a, b), modelSub(a, b); n != want {
		t.Fatalf("Sub(%d, %d) = %d; want %d", a, b, n, want)
	}
	if n, want := Clamp(a, b, c), modelClamp(a, b, c); n != want {
		t.Fatalf("Clamp(%d, %d, %d) = %d; want %d", a, b, c, n, want)
	}
	dur := modelClamp(b, 0, 1<<62)
	if x := Kept(span(a, b)); x != span(a, dur) {
		t.Fatalf("Kept of start %d, duration %d = %v", a, b, x)
	}
	if n, want := End(span(a, b)), modelAdd(a, dur); n != want {
		t.Fatalf("End of start %d, duration %d = %d; want %d", a, b, n, want)
	}
}

// Sa1: all of them, of every choice of numbers near the edges.
func TestEdges(t *testing.T) {
	l := edges()
	for _, a := range l {
		for _, b := range l {
			for _, c := range l {
				checkModel(t, a, b, c)
			}
		}
	}
}

// Sa1: all of them, of drawn numbers, and of those of which the sum, or the difference, is near an end.
func TestDrawn(t *testing.T) {
	r := rand.New(rand.NewSource(1))
	for range 100_000 {
		a, b, c := drawn(r), drawn(r), drawn(r)
		checkModel(t, a, b, c)
		// These wrap round, if a is on the wrong side of 0; then they are but other numbers.
		for i := range 3 {
			checkModel(t, a, api.MaxInt-a+i-1, c)
			checkModel(t, a, api.MinInt-a+i-1, c)
			checkModel(t, a, a-api.MaxInt+i-1, c)
			checkModel(t, a, a-api.MinInt+i-1, c)
		}
	}
}

// Sa2: what does not reach an end is the sum: taking away again leads back, and so do the language's own sums.
func TestSumIsWhole(t *testing.T) {
	r := rand.New(rand.NewSource(2))
	l := edges()
	for range 500 {
		l = append(l, drawn(r))
	}
	inner := func(n int) bool { return n != api.MinInt && n != api.MaxInt }
	for _, a := range l {
		for _, b := range l {
			if n := Add(a, b); inner(n) && (n != a+b || Sub(n, b) != a || Sub(n, a) != b) {
				t.Fatalf("Add(%d, %d) = %d, less them %d and %d", a, b, n, Sub(n, b), Sub(n, a))
			}
			if n := Sub(a, b); inner(n) && (n != a-b || Add(n, b) != a || Sub(a, n) != b) {
				t.Fatalf("Sub(%d, %d) = %d, which leads back to %d and %d", a, b, n, Add(n, b), Sub(a, n))
			}
		}
	}
}

// checkRises holds what a greater number comes to against what a lesser one does, in every place; n is a third number.
func checkRises(t *testing.T, less, more, n int) {
	t.Helper()
	for _, x := range []struct {
		name       string
		less, more int
	}{
		{"Add, first", Add(less, n), Add(more, n)},
		{"Add, second", Add(n, less), Add(n, more)},
		{"Sub, first", Sub(less, n), Sub(more, n)},
		{"Sub, second, which takes away", Sub(n, more), Sub(n, less)},
		{"Clamp above n", Clamp(less, n, api.MaxInt), Clamp(more, n, api.MaxInt)},
		{"Clamp below n", Clamp(less, api.MinInt, n), Clamp(more, api.MinInt, n)},
		{"Clamp from 0 to n", Clamp(less, 0, n), Clamp(more, 0, n)},
		{"Clamp from n to 0", Clamp(less, n, 0), Clamp(more, n, 0)},
		{"Clamp, low, up to 5", Clamp(n, less, 5), Clamp(n, more, 5)},
		{"Clamp, high, from 5 on", Clamp(n, 5, less), Clamp(n, 5, more)},
		{"Kept", Kept(span(n, less)).Dur, Kept(span(n, more)).Dur},
		{"End, start", End(span(less, n)), End(span(more, n))},
		{"End, duration", End(span(n, less)), End(span(n, more))},
	} {
		if x.less > x.more {
			t.Fatalf("%s, %d: %d comes to %d, and %d to %d", x.name, n, less, x.less, more, x.more)
		}
	}
}

// Sa2: a greater number never comes to less, and one that is taken away never to more.
func TestGreaterIsNotLess(t *testing.T) {
	l := edges()
	for i, less := range l {
		for _, more := range l[i:] {
			for _, n := range l {
				checkRises(t, less, more, n)
			}
		}
	}
	r := rand.New(rand.NewSource(3))
	for range 100_000 {
		a, b := drawn(r), drawn(r)
		checkRises(t, min(a, b), max(a, b), drawn(r))
	}
}

// Sa2: a span that is kept ends when it did, and is kept as it is.
func TestKeptEndsAlike(t *testing.T) {
	check := func(start, dur int) {
		t.Helper()
		x := span(start, dur)
		kept := Kept(x)
		if End(kept) != End(x) || Kept(kept) != kept {
			t.Fatalf("start %d, duration %d: ends at %d, kept at %d; kept twice it is %v", start, dur, End(x), End(kept), Kept(kept))
		}
	}
	for _, start := range edges() {
		for _, dur := range edges() {
			check(start, dur)
		}
	}
	r := rand.New(rand.NewSource(4))
	for range 100_000 {
		check(drawn(r), drawn(r))
	}
}
