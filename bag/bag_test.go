package bag

import (
	"maps"
	"math"
	"math/rand"
	"slices"
	"testing"

	"gossamer/api"
)

// room is how often all numbers may be there together, by the chapter's words.
const room = 1 << 62

// sum is all of a model: how often all its numbers are there together.
func sum(model map[int]int) int {
	all := 0
	for _, many := range model {
		all += many
	}
	return all
}

// counts are a model's numbers, rising, with how often each is there.
func counts(model map[int]int) []api.Count {
	var l []api.Count
	for _, x := range slices.Sorted(maps.Keys(model)) {
		l = append(l, api.Count{Of: x, Many: model[x]})
	}
	return l
}

// given is what All gives.
func given(b *Bag) []api.Count {
	var l []api.Count
	for x, many := range b.All() {
		l = append(l, api.Count{Of: x, Many: many})
	}
	return l
}

// hold holds all that a bag tells against a model, in which no number is there less than once; and what it tells of some numbers that may not be there.
func hold(t *testing.T, b *Bag, model map[int]int, xs ...int) {
	t.Helper()
	want := counts(model)
	if got := b.Counts(); !slices.Equal(got, want) {
		t.Fatalf("Counts %v, not %v", got, want)
	}
	if got := given(b); !slices.Equal(got, want) {
		t.Fatalf("All %v, not %v", got, want)
	}
	if b.Len() != sum(model) {
		t.Fatalf("Len %d, not %d", b.Len(), sum(model))
	}
	var greatest int
	if len(want) > 0 {
		greatest = want[len(want)-1].Of
	}
	if last, ok := b.Last(); last != greatest || ok != (len(want) > 0) {
		t.Fatalf("Last %d %v of %v", last, ok, want)
	}
	for x := range model {
		xs = append(xs, x)
	}
	for _, x := range xs {
		if b.Count(x) != model[x] {
			t.Fatalf("Count(%d) %d, not %d", x, b.Count(x), model[x])
		}
	}
}

// add adds to both, and holds what Add tells, and what is there then, against the chapter's words.
func add(t *testing.T, b *Bag, model map[int]int, x, many int) {
	t.Helper()
	may := many >= 0 && many <= room-sum(model)
	if b.Add(x, many) != may {
		t.Fatalf("Add(%d, %d): not %v, at %v", x, many, may, model)
	}
	if may && many > 0 {
		model[x] += many
	}
	hold(t, b, model, x, x-1, x+1)
}

// take takes out of both, likewise.
func take(t *testing.T, b *Bag, model map[int]int, x, many int) {
	t.Helper()
	may := many >= 0 && many <= model[x]
	if b.Take(x, many) != may {
		t.Fatalf("Take(%d, %d): not %v, at %v", x, many, may, model)
	}
	if may && many > 0 {
		model[x] -= many
		if model[x] == 0 {
			delete(model, x)
		}
	}
	hold(t, b, model, x, x-1, x+1)
}

// of is a bag, and its model, of numbers, each with how often it is there.
func of(t *testing.T, l ...api.Count) (*Bag, map[int]int) {
	t.Helper()
	b, model := &Bag{}, map[int]int{}
	for _, c := range l {
		add(t, b, model, c.Of, c.Many)
	}
	return b, model
}

// Bg1: Add of a number that is not there, and of one that is; the model says what is told, and these are told by themselves.
func TestAdd(t *testing.T) {
	b, model := of(t)
	for _, c := range []api.Count{{Of: 5, Many: 2}, {Of: 5, Many: 1}, {Of: -3, Many: 1}, {Of: 0, Many: 4}, {Of: 5, Many: 7}, {Of: 9, Many: 1}, {Of: 0, Many: 1}} {
		if !b.Add(c.Of, c.Many) {
			t.Fatal(c)
		}
		model[c.Of] += c.Many
		hold(t, b, model, -4, 1, 4, 10)
	}
	if b.Count(5) != 10 || b.Count(0) != 5 || b.Len() != 17 {
		t.Error(b.Counts(), b.Len())
	}
}

// Bg1: Add of 0 times is true, and changes nothing: what is not there stays away.
func TestAddNothing(t *testing.T) {
	b, model := of(t)
	for _, x := range []int{0, 1, -1, math.MinInt, math.MaxInt} {
		if !b.Add(x, 0) {
			t.Error(x)
		}
		hold(t, b, model, x)
	}
	b, model = of(t, api.Count{Of: 3, Many: 2}, api.Count{Of: 4, Many: 1})
	for _, x := range []int{3, 4, 0, 5, -1} {
		if !b.Add(x, 0) {
			t.Error(x)
		}
		hold(t, b, model, x)
	}
}

// Bg1: Add of less than 0 times is false, and changes nothing, whether the number is there as often or not.
func TestAddLess(t *testing.T) {
	for _, many := range []int{-1, -2, -3, -100, -room, math.MinInt, math.MinInt + 1} {
		b, model := of(t)
		if b.Add(3, many) {
			t.Error("of an empty one", many)
		}
		hold(t, b, model, 3)
		b, model = of(t, api.Count{Of: 3, Many: 2}, api.Count{Of: 4, Many: 200})
		for _, x := range []int{3, 4, 5} {
			if b.Add(x, many) {
				t.Error(x, many)
			}
			hold(t, b, model, x)
		}
	}
}

// Bg1: Add up to 2^62 of all of it, of one number in one go and in several.
func TestAddRoomOfOne(t *testing.T) {
	for _, x := range []int{0, 7, -1, math.MinInt, math.MaxInt} {
		for _, parts := range [][]int{{room}, {1, room - 1}, {room - 1, 1}, {room / 2, room / 2}, {room - 3, 0, 1, 1, 1}} {
			b, model := of(t)
			for _, many := range parts {
				if !b.Add(x, many) {
					t.Fatal(x, parts, many)
				}
				model[x] += many
				hold(t, b, model)
			}
			if b.Len() != 1<<62 || b.Count(x) != 1<<62 {
				t.Error(x, parts, b.Counts(), b.Len())
			}
			full(t, b, model)
		}
	}
}

// full holds that nothing more can be added to a bag that has all that may be, but 0 times; and that there is as much room as what is taken.
func full(t *testing.T, b *Bag, model map[int]int) {
	t.Helper()
	for x := range maps.Clone(model) {
		for _, y := range []int{x, x + 1, 12345} {
			for _, many := range []int{1, 2, room - 1, room, room + 1, math.MaxInt - 1, math.MaxInt} {
				if b.Add(y, many) {
					t.Fatal("no room", y, many)
				}
				hold(t, b, model, y)
			}
			if !b.Add(y, 0) {
				t.Fatal("0 times", y)
			}
			hold(t, b, model, y)
		}
		take(t, b, model, x, 1)
		add(t, b, model, 12345, 2)
		add(t, b, model, 12345, 1)
		add(t, b, model, x, 1)
		take(t, b, model, 12345, 1)
		add(t, b, model, x, 1)
	}
}

// Bg1: Add up to 2^62 of all of it, of many numbers, none of which alone is there as often.
func TestAddRoomOfMany(t *testing.T) {
	for _, l := range [][]api.Count{
		{{Of: 1, Many: room - 1}, {Of: 2, Many: 1}},
		{{Of: 1, Many: 1}, {Of: 2, Many: room - 1}},
		{{Of: -5, Many: room / 2}, {Of: 5, Many: room / 2}},
		{{Of: math.MinInt, Many: room / 4}, {Of: math.MaxInt, Many: room / 4}, {Of: 0, Many: room / 2}},
		{{Of: 4, Many: 2}, {Of: 3, Many: 3}, {Of: 2, Many: 4}, {Of: 4, Many: room - 9}},
	} {
		b, model := of(t)
		for _, c := range l {
			if !b.Add(c.Of, c.Many) {
				t.Fatal(l, c)
			}
			model[c.Of] += c.Many
			hold(t, b, model)
		}
		if b.Len() != 1<<62 {
			t.Error(l, b.Len())
		}
		full(t, b, model)
	}
}

// Bg1: Add of one above the room is false, and changes nothing, however much of it is used, and however far above that is.
func TestAddAbove(t *testing.T) {
	for _, used := range []int{0, 1, 2, 100, room / 2, room - 2, room - 1, room} {
		for _, x := range []int{1, 2} {
			b, model := of(t, api.Count{Of: 1, Many: used})
			for _, many := range []int{room - used + 1, room - used + 2, room + 1, math.MaxInt - used, math.MaxInt - used + 1, math.MaxInt} {
				if many >= 0 && b.Add(x, many) {
					t.Error(used, x, many)
				}
				hold(t, b, model, 1, 2)
			}
			add(t, b, model, x, room-used)
			if b.Len() != 1<<62 {
				t.Error(used, x, b.Len())
			}
		}
	}
}

// Bg1: Take of a number that is there, of less than all of it, and of all of it; it can be added again.
func TestTake(t *testing.T) {
	b, model := of(t, api.Count{Of: 3, Many: 5}, api.Count{Of: -2, Many: 1}, api.Count{Of: 8, Many: 2})
	for _, c := range []api.Count{{Of: 3, Many: 1}, {Of: 3, Many: 3}, {Of: 8, Many: 2}, {Of: 3, Many: 1}, {Of: -2, Many: 1}} {
		if !b.Take(c.Of, c.Many) {
			t.Fatal(c)
		}
		if model[c.Of] -= c.Many; model[c.Of] == 0 {
			delete(model, c.Of)
		}
		hold(t, b, model, -2, 3, 8)
	}
	if b.Len() != 0 || len(b.Counts()) != 0 {
		t.Error(b.Counts(), b.Len())
	}
	for _, x := range []int{8, 3, -2} {
		add(t, b, model, x, 2)
	}
}

// Bg1: Take of what is not there as often is false, and changes nothing: of a number that is there, that never was, and of which all was taken.
func TestTakeTooMany(t *testing.T) {
	b, model := of(t, api.Count{Of: 3, Many: 5}, api.Count{Of: 4, Many: 50}, api.Count{Of: 6, Many: 1})
	take(t, b, model, 6, 1)
	for _, x := range []int{3, 5, 6, 0, math.MinInt, math.MaxInt} {
		for _, many := range []int{6, 7, 50, 55, 56, room, room + 1, math.MaxInt} {
			if b.Take(x, many) {
				t.Error(x, many)
			}
			hold(t, b, model, x)
		}
	}
	for _, x := range []int{5, 6, 2} {
		if b.Take(x, 1) {
			t.Error(x)
		}
		hold(t, b, model, x)
	}
	take(t, b, model, 3, 5)
	take(t, b, model, 3, 5)
	take(t, b, model, 3, 1)
}

// Bg1: Take of 0 times is true, and changes nothing, whether the number is there or not.
func TestTakeNothing(t *testing.T) {
	b, model := of(t)
	for range 2 {
		for _, x := range []int{0, 3, 4, 5, -1, math.MinInt, math.MaxInt} {
			if !b.Take(x, 0) {
				t.Error(x)
			}
			hold(t, b, model, x)
		}
		add(t, b, model, 3, 2)
		add(t, b, model, 5, 1)
		take(t, b, model, 5, 1)
	}
}

// Bg1: Take of less than 0 times is false, and changes nothing: nothing comes by it, even beyond the room.
func TestTakeLess(t *testing.T) {
	for _, many := range []int{-1, -2, -room, math.MinInt, math.MinInt + 1} {
		for _, l := range [][]api.Count{nil, {{Of: 3, Many: 2}}, {{Of: 3, Many: room}}, {{Of: 4, Many: room - 1}, {Of: 3, Many: 1}}} {
			b, model := of(t, l...)
			for _, x := range []int{3, 4, 5} {
				if b.Take(x, many) {
					t.Error(l, x, many)
				}
				hold(t, b, model, x)
			}
		}
	}
}

// Bg1: Count of a number that is there, of one that never was, and of one of which all was taken.
func TestCount(t *testing.T) {
	b, _ := of(t, api.Count{Of: 2, Many: 3}, api.Count{Of: 4, Many: 1}, api.Count{Of: 2, Many: 4})
	b.Take(4, 1)
	for x, want := range map[int]int{2: 7, 4: 0, 3: 0, 0: 0, -2: 0, math.MinInt: 0, math.MaxInt: 0} {
		if b.Count(x) != want {
			t.Error(x, b.Count(x))
		}
	}
	b.Add(4, 6)
	b.Take(2, 2)
	if b.Count(4) != 6 || b.Count(2) != 5 {
		t.Error(b.Count(4), b.Count(2))
	}
}

// Bg1: Len, Last and Counts of an empty bag, and behind each change, as they are written out.
func TestTold(t *testing.T) {
	var b Bag
	if x, ok := b.Last(); b.Len() != 0 || x != 0 || ok || len(b.Counts()) != 0 {
		t.Error(b.Len(), x, ok, b.Counts())
	}
	for i, step := range []struct {
		x, by, all, last int
		told             []api.Count
	}{
		{-7, 2, 2, -7, []api.Count{{Of: -7, Many: 2}}},
		{5, 1, 3, 5, []api.Count{{Of: -7, Many: 2}, {Of: 5, Many: 1}}},
		{0, 4, 7, 5, []api.Count{{Of: -7, Many: 2}, {Of: 0, Many: 4}, {Of: 5, Many: 1}}},
		{5, -1, 6, 0, []api.Count{{Of: -7, Many: 2}, {Of: 0, Many: 4}}},
		{-7, 3, 9, 0, []api.Count{{Of: -7, Many: 5}, {Of: 0, Many: 4}}},
		{0, -3, 6, 0, []api.Count{{Of: -7, Many: 5}, {Of: 0, Many: 1}}},
		{0, -1, 5, -7, []api.Count{{Of: -7, Many: 5}}},
		{6, 1, 6, 6, []api.Count{{Of: -7, Many: 5}, {Of: 6, Many: 1}}},
		{-7, -5, 1, 6, []api.Count{{Of: 6, Many: 1}}},
		{6, -1, 0, 0, nil},
		{-1, 1, 1, -1, []api.Count{{Of: -1, Many: 1}}},
	} {
		if step.by > 0 && !b.Add(step.x, step.by) || step.by < 0 && !b.Take(step.x, -step.by) {
			t.Fatal(i)
		}
		last, ok := b.Last()
		if b.Len() != step.all || last != step.last || ok != (step.all > 0) || !slices.Equal(b.Counts(), step.told) {
			t.Fatal(i, b.Len(), last, ok, b.Counts())
		}
	}
}

// Bg1, Bg2: a number of which all was taken, or of which 0 were added, is told nowhere, wherever it stands among the others.
func TestToldNowhere(t *testing.T) {
	for _, gone := range []int{0, 1, 4, 8, 9} {
		for _, parts := range [][]int{{3}, {1, 2}, {1, 1, 1}, {0, 3, 0}} {
			b, model := of(t)
			for x := range 10 {
				add(t, b, model, x, 3)
			}
			for _, many := range parts {
				take(t, b, model, gone, many)
			}
			add(t, b, model, gone, 0)
			add(t, b, model, 100, 0)
			add(t, b, model, -100, 0)
			for x, many := range b.All() {
				if x == gone || x == 100 || x == -100 || many != 3 {
					t.Error(gone, x, many)
				}
			}
			if len(b.Counts()) != 9 || b.Len() != 27 || b.Count(gone) != 0 {
				t.Error(gone, b.Counts(), b.Len())
			}
		}
	}
}

// Bg1: All gives each number that is there once, rising, with how often, whatever the order in which they came; it can be ranged over again.
func TestAll(t *testing.T) {
	want := []api.Count{{Of: -4, Many: 2}, {Of: -1, Many: 1}, {Of: 0, Many: 3}, {Of: 2, Many: 1}, {Of: 10, Many: 5}}
	r := rand.New(rand.NewSource(7))
	for range 60 {
		var b Bag
		var l []int
		for _, c := range want {
			for range c.Many {
				l = append(l, c.Of)
			}
		}
		r.Shuffle(len(l), func(i, j int) { l[i], l[j] = l[j], l[i] })
		for _, x := range l {
			b.Add(x, 1)
		}
		all := b.All()
		for range 2 {
			var got []api.Count
			for x, many := range all {
				got = append(got, api.Count{Of: x, Many: many})
			}
			if !slices.Equal(got, want) {
				t.Fatal(l, got)
			}
		}
	}
}

// taken are the first ones that All gives, of which so many are taken; it fails if more are given than are wanted.
func taken(t *testing.T, b *Bag, many int) []api.Count {
	t.Helper()
	var l []api.Count
	b.All()(func(x, n int) bool {
		if len(l) == many {
			t.Fatal("more is given than is wanted", l, x)
		}
		l = append(l, api.Count{Of: x, Many: n})
		return len(l) < many
	})
	return l
}

// Bg1: All gives no more as soon as no more is wanted: behind the first, within, and at the last; the bag stays as it is.
func TestNoMore(t *testing.T) {
	b, model := of(t)
	for i := range 17 {
		add(t, b, model, i*5%17, i+1)
		all := counts(model)
		for many := 1; many <= len(all); many++ {
			if l := taken(t, b, many); !slices.Equal(l, all[:many]) {
				t.Error(many, l)
			}
			hold(t, b, model)
		}
	}
	for x := range b.All() {
		if x == 9 {
			break
		}
		if x > 9 {
			t.Error(x)
		}
	}
}

// Bg1: a bag is asked while its numbers are given, and they are given within it.
func TestWithin(t *testing.T) {
	b, model := of(t, api.Count{Of: 4, Many: 1}, api.Count{Of: 2, Many: 3}, api.Count{Of: 9, Many: 2})
	var l []int
	for x, many := range b.All() {
		if b.Count(x) != many {
			t.Error(x, many)
		}
		hold(t, b, model)
		l = append(l, x)
	}
	if !slices.Equal(l, []int{2, 4, 9}) {
		t.Error(l)
	}
}

// Bg1, R1: a nil bag is empty, whatever is done; Add and Take are false, but of 0 times Take.
func TestNil(t *testing.T) {
	var b *Bag
	for range 2 {
		for _, x := range []int{0, 1, -1, math.MinInt, math.MaxInt} {
			for _, many := range []int{0, 1, 2, -1, room, room + 1, math.MaxInt, math.MinInt} {
				if b.Add(x, many) {
					t.Error("Add", x, many)
				}
				if b.Take(x, many) != (many == 0) {
					t.Error("Take", x, many)
				}
				hold(t, b, nil, x)
			}
		}
		if b.All() == nil {
			t.Fatal("no function")
		}
	}
}

// Bg1: each function of a zero bag, and of one out of which all was taken; these can be used like any other then.
func TestNone(t *testing.T) {
	out, model := of(t, api.Count{Of: 3, Many: 4}, api.Count{Of: 1, Many: room - 4})
	take(t, out, model, 1, room-4)
	take(t, out, model, 3, 3)
	take(t, out, model, 3, 1)
	for _, b := range []*Bag{{}, new(Bag), out} {
		model := map[int]int{}
		hold(t, b, model, 0, 1, 3, math.MinInt, math.MaxInt)
		if b.All() == nil {
			t.Fatal("no function")
		}
		for _, x := range []int{3, 0, math.MinInt} {
			add(t, b, model, x, -1)
			add(t, b, model, x, 0)
			add(t, b, model, x, room+1)
			take(t, b, model, x, 0)
			take(t, b, model, x, 1)
			take(t, b, model, x, -1)
		}
		add(t, b, model, 3, 2)
		add(t, b, model, 5, room-2)
		take(t, b, model, 3, 1)
	}
}

// Bg1: the least and the greatest number, as numbers, and as how often.
func TestEnds(t *testing.T) {
	ends := []int{math.MinInt, math.MinInt + 1, -room, -1, 0, 1, room - 1, room, room + 1, math.MaxInt - 1, math.MaxInt}
	b, model := of(t)
	for _, x := range ends {
		for _, many := range ends {
			add(t, b, model, x, many)
			take(t, b, model, x, many)
		}
		add(t, b, model, x, 2)
	}
	for _, x := range ends {
		for _, many := range ends {
			take(t, b, model, x, many)
			add(t, b, model, x, many)
		}
		take(t, b, model, x, b.Count(x))
	}
	var least Bag
	least.Add(math.MinInt, 1)
	if x, ok := least.Last(); x != math.MinInt || !ok {
		t.Error(x, ok)
	}
	least.Add(math.MaxInt, room-1)
	if x, ok := least.Last(); x != math.MaxInt || !ok || !slices.Equal(least.Counts(), []api.Count{{Of: math.MinInt, Many: 1}, {Of: math.MaxInt, Many: 1<<62 - 1}}) {
		t.Error(x, ok, least.Counts())
	}
}

// Bg1: 0 is a number like any other: a bag that has it is told from one that has nothing.
func TestZero(t *testing.T) {
	b, model := of(t, api.Count{Of: 0, Many: 1})
	if x, ok := b.Last(); x != 0 || !ok || b.Len() != 1 || b.Count(0) != 1 {
		t.Error(x, ok, b.Len())
	}
	take(t, b, model, 0, 1)
	if _, ok := b.Last(); ok {
		t.Error("still there")
	}
}

// Bg2: what is added and taken out leaves the bag as it was, in whatever order, and with whatever else in it.
func TestLeaves(t *testing.T) {
	for seed := range 40 {
		r := rand.New(rand.NewSource(int64(seed)))
		b, model := of(t)
		for range r.Intn(6) {
			add(t, b, model, r.Intn(12), r.Intn(4))
		}
		was := b.Counts()
		var l []api.Count
		for range 20 {
			c := api.Count{Of: r.Intn(12), Many: r.Intn(5)}
			add(t, b, model, c.Of, c.Many)
			l = append(l, c)
		}
		r.Shuffle(len(l), func(i, j int) { l[i], l[j] = l[j], l[i] })
		for _, c := range l {
			take(t, b, model, c.Of, c.Many)
		}
		if !slices.Equal(b.Counts(), was) {
			t.Fatal(seed, was, b.Counts())
		}
	}
}

// Bg1, Bg2: numbers come and go as they are drawn, a bag that is full or nearly so among them; all of it is the sum of its counts, none of which is below 1.
func TestTurns(t *testing.T) {
	many := func(r *rand.Rand, near int) int {
		return []int{0, 1, 1, 2, 3, r.Intn(9), -1, near, near - 1, near + 1, near / 2, room, math.MaxInt, math.MinInt, r.Intn(room)}[r.Intn(15)]
	}
	for seed := range 40 {
		r := rand.New(rand.NewSource(int64(seed)))
		b, model := of(t)
		span := 1 + r.Intn(30)
		for range 300 {
			x := r.Intn(span) - span/2
			if r.Intn(2) == 0 {
				add(t, b, model, x, many(r, room-b.Len()))
			} else {
				take(t, b, model, x, many(r, b.Count(x)))
			}
			all := 0
			for _, c := range b.Counts() {
				if all += c.Many; c.Many < 1 || all < 0 {
					t.Fatal(b.Counts())
				}
			}
			if all != b.Len() || all > room {
				t.Fatal(all, b.Len())
			}
		}
	}
}

// Bg1, Bg2: many numbers, which rise, fall and come mixed, come one by one and go one by one.
func TestMany(t *testing.T) {
	const n = 3000
	mixed := rand.New(rand.NewSource(5)).Perm(n)
	for what, at := range map[string]func(int) int{
		"rising":  func(i int) int { return i },
		"falling": func(i int) int { return n - i },
		"mixed":   func(i int) int { return mixed[i] },
	} {
		var b Bag
		model := map[int]int{}
		for i := range n {
			if !b.Add(at(i), i%3+1) || !b.Add(at(i/2), 1) {
				t.Fatal(what, i)
			}
			model[at(i)] += i%3 + 1
			model[at(i/2)]++
		}
		hold(t, &b, model, -1, n+1)
		for i := range n {
			if x := at(n - 1 - i); !b.Take(x, model[x]) || b.Take(x, 1) {
				t.Fatal(what, i)
			}
			delete(model, at(n-1-i))
			if i%500 == 0 {
				hold(t, &b, model, at(n-1-i))
			}
		}
		hold(t, &b, nil, 0, 1, n)
	}
}

// R3: the counts are a list of their own: what is written into it, or behind it, is told by no one.
func TestCountsOwn(t *testing.T) {
	b, model := of(t, api.Count{Of: 1, Many: 2}, api.Count{Of: 2, Many: 3}, api.Count{Of: 3, Many: 1})
	one, two := b.Counts(), b.Counts()
	for i := range one {
		one[i] = api.Count{Of: 9, Many: 9}
	}
	_ = append(one, api.Count{Of: 10, Many: 10})
	if !slices.Equal(two, counts(model)) {
		t.Error(two)
	}
	hold(t, b, model, 9, 10)
	was := b.Counts()
	add(t, b, model, 2, 5)
	take(t, b, model, 1, 2)
	if !slices.Equal(was, two) {
		t.Error(was)
	}
}

// R4: what one bag has, another one knows nothing of.
func TestApart(t *testing.T) {
	one, its := of(t, api.Count{Of: 1, Many: room})
	two, other := of(t)
	add(t, two, other, 1, 5)
	take(t, one, its, 1, 7)
	add(t, two, other, 2, room-5)
	hold(t, one, its, 2)
	hold(t, two, other)
}

// The chapter's example.
func TestExample(t *testing.T) {
	var b Bag
	if !b.Add(3, 2) || !b.Take(3, 1) || b.Count(3) != 1 || b.Len() != 1 {
		t.Error(b.Counts())
	}
}
