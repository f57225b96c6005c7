package wide

import (
	"math/big"
	"math/rand"
	"slices"
	"testing"

	"gossamer/api"
)

const most = 1 << 62 // the greatest duration, and what one of High comes to

// greatest is the greatest sum that may be.
var greatest = api.Sum{High: api.MaxSum, Low: most - 1}

// sum is a sum of those two parts.
func sum(high, low int) api.Sum { return api.Sum{High: high, Low: low} }

// whole is what a sum comes to, as a number without ends: the chapter's words, by numbers that can't wrap round.
func whole(x api.Sum) *big.Int {
	if x.High < 0 || x.High > 1<<32 || x.Low < 0 || x.Low > 1<<62-1 {
		return new(big.Int)
	}
	n := new(big.Int).Lsh(big.NewInt(int64(x.High)), 62)
	return n.Add(n, big.NewInt(int64(x.Low)))
}

// parted is a number as a sum: a zero one, if it is below 0; the greatest one, if it is above that.
func parted(n *big.Int) api.Sum {
	if n.Sign() < 0 {
		return api.Sum{}
	}
	high, low := new(big.Int).DivMod(n, big.NewInt(most), new(big.Int))
	if high.Cmp(big.NewInt(1<<32)) > 0 {
		return greatest
	}
	return sum(int(high.Int64()), int(low.Int64()))
}

// modelDur is what a duration counts as.
func modelDur(d int) *big.Int {
	switch {
	case d < 0:
		return new(big.Int)
	case d > 1<<62:
		return big.NewInt(1 << 62)
	}
	return big.NewInt(int64(d))
}

func modelAdd(x api.Sum, d int) api.Sum {
	return parted(new(big.Int).Add(whole(x), modelDur(d)))
}

func modelSub(x api.Sum, d int) api.Sum {
	return parted(new(big.Int).Sub(whole(x), modelDur(d)))
}

func modelMean(x api.Sum, n int) int {
	if n < 1 {
		return 0
	}
	q := new(big.Int).Div(whole(x), big.NewInt(int64(n)))
	if !q.IsInt64() {
		return api.MaxInt
	}
	return int(q.Int64())
}

// mayNot are sums that may not be: with one part, or both, below 0 or beyond its greatest.
func mayNot() []api.Sum {
	highs := []int{api.MinInt, -1 << 32, -1, 1<<32 + 1, 1 << 33, 1 << 62, api.MaxInt}
	lows := []int{api.MinInt, -1 << 62, -1, 1 << 62, 1<<62 + 1, api.MaxInt}
	var l []api.Sum
	for _, high := range highs {
		for _, low := range []int{0, 1, 1 << 61, 1<<62 - 1} {
			l = append(l, sum(high, low))
		}
		for _, low := range lows {
			l = append(l, sum(high, low))
		}
	}
	for _, low := range lows {
		for _, high := range []int{0, 1, 1 << 31, 1 << 32} {
			l = append(l, sum(high, low))
		}
	}
	return l
}

// may are sums that may be, with each part near 0, in the midst, and near its greatest, rising, each once.
func may() []api.Sum {
	var l []api.Sum
	for _, high := range []int{0, 1, 2, 3, 4, 5, 1 << 31, 1<<32 - 2, 1<<32 - 1, 1 << 32} {
		for _, low := range []int{0, 1, 2, 1<<61 - 1, 1 << 61, 1<<62 - 2, 1<<62 - 1} {
			l = append(l, sum(high, low))
		}
	}
	return l
}

// durs are durations below 0, that may be, and above 2^62, rising.
func durs() []int {
	return []int{
		api.MinInt, api.MinInt + 1, -1 << 62, -7, -1,
		0, 1, 2, 7, 1<<32 - 1, 1 << 61, 1<<62 - 2, 1<<62 - 1, 1 << 62,
		1<<62 + 1, 1<<62 + 9, api.MaxInt - 1, api.MaxInt,
	}
}

// counts are counts below 1, 1, and beyond, up to the greatest.
func counts() []int {
	return []int{
		api.MinInt, api.MinInt + 1, -1 << 32, -2, -1, 0,
		1, 2, 3, 4, 5, 7, 10, 1<<30 - 1, 1 << 30, 1<<30 + 1, 1<<31 - 1, 1 << 31, 1<<31 + 1,
		1<<32 - 1, 1 << 32, 1<<32 + 1, 1 << 33, 1<<62 - 1, 1 << 62, 1<<62 + 1, api.MaxInt - 1, api.MaxInt,
	}
}

// drawn are numbers of every length that are not below 0.
func drawn(r *rand.Rand) int { return r.Int() >> r.Intn(63) }

// drawnSum are sums that may be, with parts of every length.
func drawnSum(r *rand.Rand) api.Sum {
	return sum(r.Intn(1<<32+1)>>r.Intn(33), r.Intn(most)>>r.Intn(62))
}

// Wd1: May, of each choice of parts at and beyond their ends.
func TestMay(t *testing.T) {
	for _, x := range may() {
		if !May(x) {
			t.Errorf("May(%v) is false", x)
		}
	}
	for _, x := range mayNot() {
		if May(x) {
			t.Errorf("May(%v) is true", x)
		}
	}
	for _, x := range []struct {
		x   api.Sum
		may bool
	}{
		{sum(0, 0), true},
		{sum(0, -1), false},
		{sum(-1, 0), false},
		{sum(-1, -1), false},
		{sum(0, 1<<62-1), true},
		{sum(0, 1<<62), false},
		{sum(1<<32, 0), true},
		{sum(1<<32, 1<<62-1), true},
		{sum(1<<32, 1<<62), false},
		{sum(1<<32+1, 0), false},
		{sum(1<<32+1, 1<<62-1), false},
		{sum(api.MaxInt, api.MaxInt), false},
		{sum(api.MinInt, api.MinInt), false},
	} {
		if May(x.x) != x.may {
			t.Errorf("May(%v) = %v", x.x, !x.may)
		}
	}
}

type step struct {
	x    api.Sum
	d    int
	want api.Sum
}

// Wd1: Add, without a carry, with one, just up to the greatest sum, and beyond it.
func TestAdd(t *testing.T) {
	for _, x := range []step{
		{sum(0, 0), 0, sum(0, 0)},
		{sum(0, 0), 5, sum(0, 5)},
		{sum(3, 4), 5, sum(3, 9)},
		{sum(3, 4), 0, sum(3, 4)},
		{sum(3, 4), 1, sum(3, 5)},
		{sum(0, 0), most - 1, sum(0, most-1)},
		{sum(0, 0), most, sum(1, 0)},
		{sum(3, 4), most, sum(4, 4)},

		{sum(0, 1), most - 1, sum(1, 0)},
		{sum(0, most-1), 1, sum(1, 0)},
		{sum(0, most-1), 2, sum(1, 1)},
		{sum(7, most-1), most - 1, sum(8, most-2)},
		{sum(7, most-1), most, sum(8, most-1)},
		{sum(7, most-2), most, sum(8, most-2)},
		{sum(1<<31, most/2), most / 2, sum(1<<31+1, 0)},

		{sum(3, 4), -1, sum(3, 4)},
		{sum(3, 4), -5, sum(3, 4)},
		{sum(3, 4), api.MinInt, sum(3, 4)},
		{sum(3, 4), most + 1, sum(4, 4)},
		{sum(3, 4), api.MaxInt, sum(4, 4)},

		{sum(1<<32-1, most-1), 1, sum(1<<32, 0)},
		{sum(1<<32-1, most-1), most, sum(1<<32, most-1)},
		{sum(1<<32, 0), most - 2, sum(1<<32, most-2)},
		{sum(1<<32, 0), most - 1, greatest},
		{sum(1<<32, most-2), 1, greatest},
		{greatest, 0, greatest},
		{greatest, -1, greatest},

		{sum(1<<32, 0), most, greatest},
		{sum(1<<32, 0), api.MaxInt, greatest},
		{sum(1<<32, 1), most - 1, greatest},
		{sum(1<<32, 5), most, greatest},
		{sum(1<<32, most-2), 2, greatest},
		{greatest, 1, greatest},
		{greatest, most - 1, greatest},
		{greatest, most, greatest},
		{greatest, api.MaxInt, greatest},
	} {
		if got := Add(x.x, x.d); got != x.want {
			t.Errorf("Add(%v, %d) = %v; want %v", x.x, x.d, got, x.want)
		}
	}
}

// Wd1: Sub, without borrowing, with it, just down to zero, and below it.
func TestSub(t *testing.T) {
	for _, x := range []step{
		{sum(0, 5), 0, sum(0, 5)},
		{sum(0, 5), 4, sum(0, 1)},
		{sum(3, 9), 5, sum(3, 4)},
		{sum(3, 9), 9, sum(3, 0)},
		{sum(3, most-1), most - 1, sum(3, 0)},
		{sum(3, 4), most, sum(2, 4)},
		{greatest, 0, greatest},
		{greatest, 1, sum(1<<32, most-2)},
		{greatest, most, sum(1<<32-1, most-1)},

		{sum(1, 0), 1, sum(0, most-1)},
		{sum(1, 0), most - 1, sum(0, 1)},
		{sum(3, 4), 5, sum(2, most-1)},
		{sum(3, most-2), most - 1, sum(2, most-1)},
		{sum(1<<32, 0), 1, sum(1<<32-1, most-1)},
		{sum(1<<32, 0), most, sum(1<<32-1, 0)},

		{sum(3, 4), -1, sum(3, 4)},
		{sum(3, 4), api.MinInt, sum(3, 4)},
		{sum(3, 4), most + 1, sum(2, 4)},
		{sum(3, 4), api.MaxInt, sum(2, 4)},
		{sum(0, 0), -1, sum(0, 0)},

		{sum(0, 0), 0, sum(0, 0)},
		{sum(0, 1), 1, sum(0, 0)},
		{sum(0, most-1), most - 1, sum(0, 0)},
		{sum(1, 0), most, sum(0, 0)},
		{sum(1, 0), api.MaxInt, sum(0, 0)},

		{sum(0, 0), 1, sum(0, 0)},
		{sum(0, 4), 5, sum(0, 0)},
		{sum(0, most-2), most - 1, sum(0, 0)},
		{sum(0, 0), most, sum(0, 0)},
		{sum(0, 5), most, sum(0, 0)},
		{sum(0, most-1), most, sum(0, 0)},
		{sum(0, most-1), api.MaxInt, sum(0, 0)},
	} {
		if got := Sub(x.x, x.d); got != x.want {
			t.Errorf("Sub(%v, %d) = %v; want %v", x.x, x.d, got, x.want)
		}
	}
}

// Wd1: Less, by the upper part, then by the lower one.
func TestLess(t *testing.T) {
	l := may()
	for i, a := range l {
		for j, b := range l {
			if Less(a, b) != (i < j) {
				t.Errorf("Less(%v, %v) = %v", a, b, i >= j)
			}
		}
	}
}

// Wd1: Mean, of counts below 1, of 1, of great ones, of upper parts that are not 0, and of more than MaxInt.
func TestMean(t *testing.T) {
	for _, x := range []struct {
		x    api.Sum
		n    int
		want int
	}{
		{sum(0, 7), 1, 7},
		{sum(0, 7), 2, 3},
		{sum(0, 7), 7, 1},
		{sum(0, 7), 8, 0},
		{sum(0, 0), 1, 0},
		{sum(0, 0), api.MaxInt, 0},
		{sum(0, most-1), 1, most - 1},
		{sum(0, most-1), most - 1, 1},
		{sum(0, most-1), most, 0},
		{sum(0, most-1), api.MaxInt, 0},

		{sum(0, 7), 0, 0},
		{sum(0, 7), -1, 0},
		{sum(0, 7), api.MinInt, 0},
		{sum(2, 0), 0, 0},
		{sum(2, 0), -1, 0},
		{greatest, 0, 0},
		{greatest, -1, 0},
		{greatest, api.MinInt, 0},

		{sum(1, 0), 1, most},
		{sum(1, 0), 3, most / 3},
		{sum(1, 0), api.MaxInt, 0},
		{sum(2, 0), api.MaxInt, 1},
		{sum(1, most-1), 1, api.MaxInt},
		{sum(1, most-2), 1, api.MaxInt - 1},
		{sum(3, 0), 3, most},
		{sum(3, 0), 2, most + most/2},
		{sum(4, 0), 4, most},
		{sum(4, 0), 3, most + most/3},
		{sum(4, 0), api.MaxInt, 2},
		{sum(3, most-1), 2, api.MaxInt},
		{sum(3, most-2), 2, api.MaxInt},
		{sum(3, most-3), 2, api.MaxInt - 1},
		{sum(1<<32, 0), 1 << 32, most},
		{sum(1<<32, 1<<32-1), 1 << 32, most},
		{sum(1<<32, 1<<32), 1 << 32, most + 1},
		{sum(1<<32, 0), most, 1 << 32},
		{sum(1<<32, 0), api.MaxInt, 1 << 31},
		{greatest, 1 << 32, most + most>>32 - 1},
		{greatest, api.MaxInt, 1 << 31},
		{greatest, most, 1 << 32},
		{greatest, 1<<31 + 1, api.MaxInt - 1<<31 + 1},

		{sum(2, 0), 1, api.MaxInt},
		{sum(3, 0), 1, api.MaxInt},
		{sum(4, 0), 1, api.MaxInt},
		{sum(4, 0), 2, api.MaxInt},
		{sum(8, 0), 2, api.MaxInt},
		{sum(8, 0), 3, api.MaxInt},
		{sum(1<<32, 0), 1, api.MaxInt},
		{sum(1<<32, 0), 1<<30 - 1, api.MaxInt},
		{sum(1<<32, 0), 1 << 30, api.MaxInt},
		{sum(1<<32, 0), 1<<30 + 1, api.MaxInt},
		{sum(1<<32, 0), 1 << 31, api.MaxInt},
		{greatest, 1, api.MaxInt},
		{greatest, 1 << 31, api.MaxInt},
	} {
		if got := Mean(x.x, x.n); got != x.want {
			t.Errorf("Mean(%v, %d) = %d; want %d", x.x, x.n, got, x.want)
		}
	}
}

// checkOf holds the sum of durations against what is wanted, and what is handed in against what it was.
func checkOf(t *testing.T, l []int, want api.Sum) {
	t.Helper()
	kept := slices.Clone(l)
	if got := Of(l...); got != want {
		t.Errorf("Of(%d) = %v; want %v", l, got, want)
	}
	if !slices.Equal(l, kept) {
		t.Errorf("Of changed what was handed in: %d, which was %d", l, kept)
	}
}

// Wd1: Of, of no duration, of one, and of many.
func TestOf(t *testing.T) {
	if x := Of(); x != (api.Sum{}) {
		t.Errorf("Of() = %v", x)
	}
	checkOf(t, nil, sum(0, 0))
	checkOf(t, []int{}, sum(0, 0))
	for _, d := range durs() {
		checkOf(t, []int{d}, parted(modelDur(d)))
	}
	checkOf(t, []int{1, 2, 3}, sum(0, 6))
	checkOf(t, []int{most, 1}, sum(1, 1))
	checkOf(t, []int{most - 1, 1}, sum(1, 0))
	checkOf(t, []int{most - 1, most - 1, 3}, sum(2, 1))
	checkOf(t, []int{5, -1, api.MinInt, 6}, sum(0, 11))
	checkOf(t, []int{api.MaxInt, api.MaxInt, most + 1, -9, 7}, sum(3, 7))
	checkOf(t, slices.Repeat([]int{most}, 1000), sum(1000, 0))
	checkOf(t, slices.Repeat([]int{most - 1}, 1000), sum(999, most-1000))
	checkOf(t, slices.Repeat([]int{api.MaxInt, -1}, 1000), sum(1000, 0))
	behind := []int{1, 2, 3, 4}
	checkOf(t, behind[:2], sum(0, 3))
	checkOf(t, behind, sum(0, 10))
}

// Wd1: a sum that may not be counts as a zero one, whatever is done with it.
func TestMayNotIsZero(t *testing.T) {
	zero := api.Sum{}
	for _, x := range mayNot() {
		for _, d := range durs() {
			if got, want := Add(x, d), parted(modelDur(d)); got != want {
				t.Errorf("Add(%v, %d) = %v; want %v", x, d, got, want)
			}
			if got := Sub(x, d); got != zero {
				t.Errorf("Sub(%v, %d) = %v", x, d, got)
			}
		}
		for _, n := range counts() {
			if got := Mean(x, n); got != 0 {
				t.Errorf("Mean(%v, %d) = %d", x, n, got)
			}
		}
		for _, b := range may() {
			if Less(x, b) != (b != zero) || Less(b, x) {
				t.Errorf("Less of %v and %v = %v, and the other way round %v", x, b, Less(x, b), Less(b, x))
			}
		}
		for _, b := range mayNot() {
			if Less(x, b) {
				t.Errorf("Less(%v, %v) is true", x, b)
			}
		}
	}
}

// checkModel holds all answers to a sum, a duration and a count against the model's.
func checkModel(t *testing.T, x api.Sum, d, n int) {
	t.Helper()
	if got, want := Add(x, d), modelAdd(x, d); got != want {
		t.Fatalf("Add(%v, %d) = %v; want %v", x, d, got, want)
	}
	if got, want := Sub(x, d), modelSub(x, d); got != want {
		t.Fatalf("Sub(%v, %d) = %v; want %v", x, d, got, want)
	}
	if got, want := Mean(x, n), modelMean(x, n); got != want {
		t.Fatalf("Mean(%v, %d) = %d; want %d", x, n, got, want)
	}
}

// Wd1: all of them, of every choice of sums, durations and counts near the edges.
func TestEdges(t *testing.T) {
	for _, x := range append(may(), mayNot()...) {
		for _, d := range durs() {
			for _, n := range counts() {
				checkModel(t, x, d, n)
			}
		}
	}
}

// Wd1: all of them, of drawn ones, and of those that come near zero, near the greatest sum, and near MaxInt.
func TestDrawn(t *testing.T) {
	r := rand.New(rand.NewSource(1))
	for range 50_000 {
		x, d, n := drawnSum(r), drawn(r), drawn(r)
		checkModel(t, x, d, n)
		checkModel(t, x, -d, -n)
		for i := range 3 {
			checkModel(t, sum(0, x.Low), x.Low+i-1, n)
			checkModel(t, sum(1, x.Low), most+x.Low+i-1, n)
			checkModel(t, sum(1<<32, x.Low), most-1-x.Low+i-1, n)
			// A half of the upper part is the count at which the mean passes MaxInt, and a quarter the one at which it passes a word of 64 bits.
			checkModel(t, x, x.Low+i-1, x.High/2+i-1)
			checkModel(t, x, most-x.Low+i-1, x.High/4+i-1)
		}
	}
}

// Wd1: Less, of drawn sums, and of those that differ in one part.
func TestDrawnLess(t *testing.T) {
	r := rand.New(rand.NewSource(2))
	for range 50_000 {
		a, b := drawnSum(r), drawnSum(r)
		for _, c := range []api.Sum{a, b, sum(a.High, b.Low), sum(b.High, a.Low)} {
			if got, want := Less(a, c), whole(a).Cmp(whole(c)) < 0; got != want {
				t.Fatalf("Less(%v, %v) = %v", a, c, got)
			}
		}
	}
}

// checkBack holds a sum with a duration added, then taken away, against the sum, and the other way round; as far as there is room.
func checkBack(t *testing.T, x api.Sum, d int) {
	t.Helper()
	more, less := Add(x, d), Sub(x, d)
	room := new(big.Int).Sub(whole(greatest), whole(x))
	if got := Sub(more, d); modelDur(d).Cmp(room) <= 0 && got != x {
		t.Fatalf("%v, %d added, and taken away again, is %v", x, d, got)
	}
	if got := Add(less, d); modelDur(d).Cmp(whole(x)) <= 0 && got != x {
		t.Fatalf("%v, %d taken away, and added again, is %v", x, d, got)
	}
	if Less(more, x) || Less(x, less) || !May(more) || !May(less) {
		t.Fatalf("%v, with %d more %v, with it less %v", x, d, more, less)
	}
}

// Wd2: what is added and taken away leaves the sum, as long as there is room.
func TestAddedAndTakenAway(t *testing.T) {
	for _, x := range may() {
		for _, d := range durs() {
			checkBack(t, x, d)
		}
	}
	r := rand.New(rand.NewSource(3))
	for range 50_000 {
		x, d := drawnSum(r), drawn(r)
		checkBack(t, x, d)
		checkBack(t, sum(1<<32, x.Low), d)
		checkBack(t, sum(0, x.Low), d)
	}
}

// Wd2: many that are added, then taken away in another order, leave the sum.
func TestManyTakenAway(t *testing.T) {
	r := rand.New(rand.NewSource(4))
	for range 1000 {
		x := drawnSum(r)
		x.High /= 2
		var l []int
		for range r.Intn(30) {
			l = append(l, drawn(r))
		}
		y := x
		for _, d := range l {
			y = Add(y, d)
		}
		r.Shuffle(len(l), func(i, j int) { l[i], l[j] = l[j], l[i] })
		for _, d := range l {
			y = Sub(y, d)
		}
		if y != x {
			t.Fatalf("%v, %d added, and taken away again, is %v", x, l, y)
		}
	}
}

// orders calls f with each order of l.
func orders(l []int, f func([]int)) {
	var from func(int)
	from = func(at int) {
		if at == len(l) {
			f(l)
			return
		}
		for i := at; i < len(l); i++ {
			l[at], l[i] = l[i], l[at]
			from(at + 1)
			l[at], l[i] = l[i], l[at]
		}
	}
	from(0)
}

// checkOrders holds all orders of durations against one another, added to a zero sum and to x.
func checkOrders(t *testing.T, x api.Sum, l []int) {
	t.Helper()
	of, behind := new(big.Int), whole(x)
	for _, d := range l {
		of.Add(of, modelDur(d))
		behind.Add(behind, modelDur(d))
	}
	orders(slices.Clone(l), func(l []int) {
		checkOf(t, l, parted(of))
		y := x
		for _, d := range l {
			y = Add(y, d)
		}
		if y != parted(behind) {
			t.Fatalf("%v and %d are %v; want %v", x, l, y, parted(behind))
		}
	})
}

// Wd2: the order of durations does not matter, not even near the greatest sum.
func TestEveryOrder(t *testing.T) {
	for _, l := range [][]int{
		{},
		{5},
		{1, 2, 3, 4, 5, 6},
		{most, most - 1, 1, 0, 7, most - 7},
		{-1, most + 1, 5, api.MinInt, api.MaxInt, most - 5},
		{most - 1, most - 1, most - 1, 1, 1, 1},
		{most, most, 0, -7, 3, 3},
	} {
		for _, x := range []api.Sum{{}, sum(0, most-5), sum(1<<32-3, 0), sum(1<<32-2, most-6), sum(1<<32, most-6), greatest} {
			checkOrders(t, x, l)
		}
	}
	r := rand.New(rand.NewSource(5))
	for range 100 {
		checkOrders(t, drawnSum(r), []int{drawn(r), drawn(r), drawn(r), -drawn(r), drawn(r)})
	}
}

// checkMean holds the mean of durations against the least and the greatest one of them.
func checkMean(t *testing.T, l []int) {
	t.Helper()
	low, high := modelDur(slices.Min(l)).Int64(), modelDur(slices.Max(l)).Int64()
	if mean := int64(Mean(Of(l...), len(l))); mean < low || mean > high {
		t.Fatalf("the mean of %d is %d", l, mean)
	}
}

// Wd2: a mean is between the least and the greatest duration.
func TestMeanIsBetween(t *testing.T) {
	for _, a := range durs() {
		for n := 1; n < 9; n++ {
			checkMean(t, slices.Repeat([]int{a}, n))
		}
		for _, b := range durs() {
			checkMean(t, []int{a, b})
			for _, c := range durs() {
				checkMean(t, []int{a, b, c})
			}
		}
	}
	for _, n := range []int{100, 1000, 1 << 16} {
		for _, d := range []int{0, 1, most - 1, most, api.MaxInt} {
			checkMean(t, slices.Repeat([]int{d}, n))
		}
	}
	r := rand.New(rand.NewSource(6))
	for range 5000 {
		d := drawn(r)
		var l []int
		for range 1 + r.Intn(40) {
			l = append(l, d+r.Intn(9)-4)
		}
		checkMean(t, l)
		for i := range l {
			l[i] = drawn(r)
		}
		checkMean(t, l)
	}
}
