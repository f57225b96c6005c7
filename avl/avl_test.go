package avl

import (
	"cmp"
	"iter"
	"maps"
	"math"
	"math/rand"
	"slices"
	"strconv"
	"strings"
	"testing"
)

// least is the chapter's Least, by its words.
func least(d int) int {
	if d < 2 {
		return d
	}
	return least(d-1) + least(d-2) + 1
}

// rising are the keys of a model, by the library.
func rising[K cmp.Ordered, V any](model map[K]V) []K { return slices.Sorted(maps.Keys(model)) }

// pair is a key with its value.
type pair[K cmp.Ordered, V any] struct {
	key   K
	value V
}

// pairs are the model's keys that are not below one, or all if there is none, with their values.
func pairs[K cmp.Ordered, V any](model map[K]V, from ...K) []pair[K, V] {
	var l []pair[K, V]
	for _, key := range rising(model) {
		if len(from) == 0 || key >= from[0] {
			l = append(l, pair[K, V]{key, model[key]})
		}
	}
	return l
}

// given are all that a function gives.
func given[K cmp.Ordered, V any](all iter.Seq2[K, V]) []pair[K, V] {
	var l []pair[K, V]
	for key, value := range all {
		l = append(l, pair[K, V]{key, value})
	}
	return l
}

// shaped is how deep a tree is, as its nodes stand: each is held against the chapter's words for a tree.
func shaped[K cmp.Ordered, V any](t *testing.T, n *node[K, V], above, below *K) int {
	t.Helper()
	if n == nil {
		return 0
	}
	if above != nil && n.key <= *above || below != nil && n.key >= *below {
		t.Fatalf("%v stands in the wrong half", n.key)
	}
	less, more := shaped(t, n.less, above, &n.key), shaped(t, n.more, &n.key, below)
	if less-more > 1 || more-less > 1 {
		t.Fatalf("halves of %v: %d and %d deep", n.key, less, more)
	}
	return max(less, more) + 1
}

// count is how many nodes a tree has.
func count[K cmp.Ordered, V any](n *node[K, V]) int {
	if n == nil {
		return 0
	}
	return count(n.less) + count(n.more) + 1
}

// hold holds all that a map tells of itself as a whole against a model.
func hold[K cmp.Ordered, V comparable](t *testing.T, m *Map[K, V], model map[K]V) {
	t.Helper()
	keys := rising(model)
	if m.Len() != len(keys) || !slices.Equal(m.Keys(), keys) {
		t.Fatalf("Len %d, Keys %v; not %v", m.Len(), m.Keys(), keys)
	}
	if got, want := given(m.All()), pairs(model); !slices.Equal(got, want) {
		t.Fatalf("All %v, not %v", got, want)
	}
	last, ok := m.Last()
	if len(keys) > 0 && (!ok || last != keys[len(keys)-1]) || len(keys) == 0 && (ok || last != *new(K)) {
		t.Fatalf("Last %v %v of %v", last, ok, keys)
	}
	if deep := shaped(t, m.root, nil, nil); m.Depth() != deep || count(m.root) != len(keys) {
		t.Fatalf("Depth %d, not %d; %d nodes of %d keys", m.Depth(), deep, count(m.root), len(keys))
	}
	if len(keys) < least(m.Depth()) {
		t.Fatalf("%d keys, %d deep", len(keys), m.Depth())
	}
}

// ask holds what a map tells of a key against a model.
func ask[K cmp.Ordered, V comparable](t *testing.T, m *Map[K, V], model map[K]V, keys ...K) {
	t.Helper()
	for _, key := range keys {
		want, there := model[key]
		if got, ok := m.Get(key); got != want || ok != there {
			t.Fatalf("Get(%v): %v %v, not %v %v", key, got, ok, want, there)
		}
		if got, want := given(m.From(key)), pairs(model, key); !slices.Equal(got, want) {
			t.Fatalf("From(%v): %v, not %v", key, got, want)
		}
	}
}

// put puts a key into both.
func put[K cmp.Ordered, V comparable](t *testing.T, m *Map[K, V], model map[K]V, key K, value V) {
	t.Helper()
	_, had := model[key]
	model[key] = value
	if m.Put(key, value) == had {
		t.Fatalf("Put(%v): %v", key, had)
	}
}

// drop drops a key from both.
func drop[K cmp.Ordered, V comparable](t *testing.T, m *Map[K, V], model map[K]V, key K) {
	t.Helper()
	_, had := model[key]
	delete(model, key)
	if m.Drop(key) != had {
		t.Fatalf("Drop(%v): %v", key, !had)
	}
}

// of is a map, and its model, of keys that were put in their order, each with ten times itself.
func of(keys ...int) (*Map[int, int], map[int]int) {
	m, model := &Map[int, int]{}, map[int]int{}
	for _, key := range keys {
		m.Put(key, 10*key)
		model[key] = 10 * key
	}
	return m, model
}

// orders are all orders of the numbers from 1 to n.
func orders(n int) [][]int {
	if n == 0 {
		return [][]int{nil}
	}
	var all [][]int
	for _, l := range orders(n - 1) {
		for at := range n {
			all = append(all, slices.Insert(slices.Clone(l), at, n))
		}
	}
	return all
}

// runs are keys that rise, that fall, and that come in other orders.
func runs(many int) map[string][]int {
	all := map[string][]int{"mixed": rand.New(rand.NewSource(3)).Perm(many)}
	for i := range many {
		all["rising"] = append(all["rising"], i)
		all["falling"] = append(all["falling"], many-1-i)
		all["from both ends"] = append(all["from both ends"], []int{i / 2, many - 1 - i/2}[i%2])
		all["from the middle"] = append(all["from the middle"], many/2+[]int{i / 2, -1 - i/2}[i%2])
		all["in steps"] = append(all["in steps"], i*37%many)
	}
	return all
}

// Av1: a zero map is empty.
func TestEmpty(t *testing.T) {
	var m Map[int, string]
	hold(t, &m, nil)
	ask(t, &m, nil, 0, 1, -1, math.MinInt, math.MaxInt)
	for range 2 {
		if m.Drop(0) || m.Drop(7) {
			t.Error("Drop of none")
		}
		hold(t, &m, nil)
	}
	if m.Keys() != nil || m.Depth() != 0 {
		t.Error(m.Keys(), m.Depth())
	}
}

// Av1: Put tells whether the key had no value; it has the new one then.
func TestPut(t *testing.T) {
	var m Map[int, int]
	model := map[int]int{}
	for _, x := range [][2]int{{5, 1}, {5, 2}, {3, 0}, {9, 4}, {5, 2}, {3, 7}, {9, -1}, {0, 0}, {0, 3}, {0, 0}} {
		put(t, &m, model, x[0], x[1])
		hold(t, &m, model)
		ask(t, &m, model, 0, 1, 3, 4, 5, 6, 9, 10)
	}
	if m.Put(9, 5) || !m.Put(10, 5) {
		t.Error("Put")
	}
}

// Av1: a key that is put again leaves the tree as deep as it was.
func TestPutAgain(t *testing.T) {
	m, model := of(4, 2, 6, 1, 3, 5, 7, 8)
	deep := m.Depth()
	for key := 1; key <= 8; key++ {
		put(t, m, model, key, -key)
		hold(t, m, model)
		if m.Depth() != deep {
			t.Error(key, m.Depth())
		}
	}
}

// Av1: Get of a key whose value is its zero value is true all the same.
func TestGetZero(t *testing.T) {
	m, _ := of(0)
	if v, ok := m.Get(0); v != 0 || !ok {
		t.Error(v, ok)
	}
	if v, ok := m.Get(1); v != 0 || ok {
		t.Error(v, ok)
	}
}

// kinds are maps that have nodes with none, one and both halves, within which a key goes.
func kinds() map[string][]int {
	return map[string][]int{
		"alone":            {1},
		"the lesser half":  {2, 1},
		"the greater half": {1, 2},
		"both":             {2, 1, 3},
		"both, uneven":     {2, 1, 4, 3},
		"both, likewise":   {3, 1, 4, 2},
		"seven":            {4, 2, 6, 1, 3, 5, 7},
		"left of the next": {4, 2, 8, 1, 3, 6, 9, 5, 7, 10},
		"least of 4":       {5, 3, 8, 2, 4, 7, 10, 1, 6, 9, 11, 12},
		"its mirror":       {8, 5, 10, 3, 6, 9, 11, 2, 4, 7, 12, 1},
	}
}

// Av1: Drop of each key of each kind of tree, and of keys that are not there.
func TestDrop(t *testing.T) {
	for what, keys := range kinds() {
		for _, key := range keys {
			t.Run(what+" "+strconv.Itoa(key), func(t *testing.T) {
				m, model := of(keys...)
				hold(t, m, model)
				for _, x := range []int{0, -5, 100, key, key, 0} {
					drop(t, m, model, x)
					hold(t, m, model)
					ask(t, m, model, append(keys, 0, 100)...)
				}
				put(t, m, model, key, 77)
				hold(t, m, model)
				ask(t, m, model, keys...)
			})
		}
	}
}

// Av1: Drop of the last key that is there leaves an empty map, which can be used again.
func TestDropLast(t *testing.T) {
	m, model := of(1)
	for _, key := range []int{1, -3, 1} {
		put(t, m, model, key, key)
		drop(t, m, model, key)
		hold(t, m, model)
		ask(t, m, model, key, 0)
		drop(t, m, model, key)
		hold(t, m, model)
	}
	if m.Keys() != nil || m.root != nil {
		t.Error(m.Keys())
	}
}

// Av1, Av2: all orders in which few keys are put, and in which they are dropped then.
func TestOrders(t *testing.T) {
	for many := range 7 {
		all := orders(many)
		for i, l := range all {
			m, model := of()
			for _, key := range l {
				put(t, m, model, key, 100*key+i)
				hold(t, m, model)
			}
			ask(t, m, model, 0, 1, 2, 3, 4, 5, 6, 7)
			for _, key := range all[(i*31+7)%len(all)] {
				drop(t, m, model, key)
				hold(t, m, model)
			}
		}
	}
}

// Av1: every pair of orders of five keys.
func TestPairsOfOrders(t *testing.T) {
	all := orders(5)
	for _, in := range all {
		for _, out := range all {
			m, model := of(in...)
			for _, key := range out {
				drop(t, m, model, key)
				hold(t, m, model)
			}
		}
	}
}

// Av1: keys that rise, that fall, and that come in other orders, put in one order and dropped in another.
func TestRuns(t *testing.T) {
	all := runs(120)
	for in, keys := range all {
		for out, gone := range all {
			m, model := of()
			for _, key := range keys {
				put(t, m, model, key, -key)
				hold(t, m, model)
			}
			for _, key := range gone {
				drop(t, m, model, key)
				hold(t, m, model)
			}
			if m.Len() != 0 {
				t.Error(in, out, m.Len())
			}
		}
	}
}

// Av1: keys that rise, that fall, and that come in other orders, put and dropped by turns: each goes some while behind it came, or as soon as it came.
func TestSlide(t *testing.T) {
	for _, keys := range runs(200) {
		for _, while := range []int{0, 1, 2, 3, 10, 40} {
			m, model := of()
			for i, key := range keys {
				put(t, m, model, key, i)
				hold(t, m, model)
				if i >= while {
					drop(t, m, model, keys[i-while])
					hold(t, m, model)
				}
			}
			if m.Len() != while {
				t.Error(while, m.Len())
			}
		}
	}
}

// Av1: the tree is as deep as the chapter lets it be, of many keys that rise, and that fall.
func TestDepth(t *testing.T) {
	for what, keys := range runs(1 << 12) {
		m, model := of(keys...)
		hold(t, m, model)
		if m.Depth() < 13 || m.Depth() > 17 {
			t.Error(what, m.Depth())
		}
	}
	one, _ := of(3)
	two, _ := of(3, 4)
	three, _ := of(1, 2, 3)
	if one.Depth() != 1 || two.Depth() != 2 || three.Depth() != 2 {
		t.Error(one.Depth(), two.Depth(), three.Depth())
	}
}

// Av1, Av2: keys put and dropped by turns, as they are drawn.
func TestTurns(t *testing.T) {
	for seed := range 30 {
		r := rand.New(rand.NewSource(int64(seed)))
		m, model := of()
		span := 1 + r.Intn(60)
		for range 300 {
			key := r.Intn(span) - span/2
			if r.Intn(5) < 2+seed%2 {
				drop(t, m, model, key)
			} else {
				put(t, m, model, key, r.Intn(3))
			}
			hold(t, m, model)
			ask(t, m, model, key, r.Intn(span+2)-span/2-1)
		}
	}
}

// Av2: From of keys that are there, that are not, and that are below and above all; it can be ranged over again.
func TestFrom(t *testing.T) {
	m, model := of(30, 10, 50, 20, 40, 60)
	ask(t, m, model, 10, 20, 30, 40, 50, 60, 9, 11, 25, 59, 61, -1, 1000, math.MinInt, math.MaxInt)
	if l := given(m.From(35)); !slices.Equal(l, []pair[int, int]{{40, 400}, {50, 500}, {60, 600}}) {
		t.Error(l)
	}
	if l := given(m.From(61)); l != nil {
		t.Error(l)
	}
	from := m.From(50)
	for range 3 {
		if l := given(from); !slices.Equal(l, []pair[int, int]{{50, 500}, {60, 600}}) {
			t.Error(l)
		}
		for range from {
			break
		}
	}
}

// taken are the first ones that a function gives, of which so many are taken; it fails if more are given than are wanted.
func taken(t *testing.T, all iter.Seq2[int, int], many int) []pair[int, int] {
	t.Helper()
	var l []pair[int, int]
	all(func(key, value int) bool {
		if len(l) == many {
			t.Fatal("more is given than is wanted", l, key)
		}
		l = append(l, pair[int, int]{key, value})
		return len(l) < many
	})
	return l
}

// Av2: no more is given as soon as no more is wanted, wherever that is; the map stays as it is.
func TestNoMore(t *testing.T) {
	for what, keys := range runs(21) {
		m, model := of(keys...)
		was := m.root
		all := pairs(model)
		for many := 1; many <= len(all); many++ {
			if l := taken(t, m.All(), many); !slices.Equal(l, all[:many]) {
				t.Error(what, many, l)
			}
			for at := range len(all) - many + 1 {
				if l := taken(t, m.From(at), many); !slices.Equal(l, all[at:at+many]) {
					t.Error(what, at, many, l)
				}
			}
			hold(t, m, model)
		}
		if m.root != was {
			t.Error(what, "the map is changed")
		}
	}
}

// Av2: the map is asked while its keys are given, and keys are given within keys.
func TestWithin(t *testing.T) {
	m, model := of(5, 2, 8, 1, 9, 3)
	for key, value := range m.All() {
		if got, ok := m.Get(key); got != value || !ok {
			t.Error(key, got, ok)
		}
		hold(t, m, model)
		ask(t, m, model, key, key+1)
	}
}

// Av2: what is given stays what was there as it began, though the map is changed meanwhile; what is given behind it tells of the change. So each ranging ends.
func TestChangedMeanwhile(t *testing.T) {
	m, model := of(1, 2, 3, 4, 5, 6, 7)
	want := pairs(model)
	var got []pair[int, int]
	for key, value := range m.All() {
		got = append(got, pair[int, int]{key, value})
		drop(t, m, model, 8-key)
		put(t, m, model, key+100, 1)
		put(t, m, model, 7, key)
		hold(t, m, model)
	}
	if !slices.Equal(got, want) {
		t.Error(got)
	}
	from, all := m.From(104), m.All()
	put(t, m, model, 105, 9)
	put(t, m, model, 200, 9)
	if !slices.Equal(given(from), pairs(model, 104)) || !slices.Equal(given(all), pairs(model)) {
		t.Error("what was asked for ahead of a change")
	}
	for key := range from {
		drop(t, m, model, key)
	}
	hold(t, m, model)
}

// R3: a map that is copied is another one.
func TestCopy(t *testing.T) {
	m, model := of(1, 2, 3, 4, 5)
	other, its := *m, maps.Clone(model)
	for key := range 9 {
		put(t, m, model, key, -1)
		drop(t, &other, its, key-2)
		hold(t, m, model)
		hold(t, &other, its)
	}
}

// R3: the keys are a list of their own, which tells nothing behind its end.
func TestKeysOwn(t *testing.T) {
	m, model := of(1, 2, 3)
	one, two := m.Keys(), m.Keys()
	for i := range one {
		one[i] = 9
	}
	one = append(one, 10)
	if !slices.Equal(two, []int{1, 2, 3}) || len(one) != 4 {
		t.Error(one, two)
	}
	hold(t, m, model)
}

// Av1, Av2, R1: a nil map is empty, whatever is done, and gives nothing.
func TestNil(t *testing.T) {
	var m *Map[string, int]
	for range 2 {
		if m.Put("", 1) || m.Put("x", 1) || m.Drop("") || m.Drop("x") {
			t.Error("changed")
		}
		if m.Len() != 0 || m.Depth() != 0 || m.Keys() != nil {
			t.Error(m.Len(), m.Depth(), m.Keys())
		}
		if v, ok := m.Get("x"); v != 0 || ok {
			t.Error(v, ok)
		}
		if k, ok := m.Last(); k != "" || ok {
			t.Error(k, ok)
		}
		if m.All() == nil || m.From("") == nil {
			t.Fatal("no function")
		}
		if l := append(given(m.All()), given(m.From(""))...); l != nil {
			t.Error(l)
		}
	}
}

// Av1, Av2: a zero map, and one of which all was dropped, tell the same, and give nothing.
func TestNone(t *testing.T) {
	dropped, _ := of(3, 1, 2, 5, 4)
	for key := range 6 {
		dropped.Drop(key)
	}
	for _, m := range []*Map[int, int]{{}, new(Map[int, int]), dropped} {
		hold(t, m, nil)
		ask(t, m, nil, 0, 1, 3, 5, math.MinInt, math.MaxInt)
		if m.All() == nil || m.From(0) == nil || m.Drop(1) || m.Keys() != nil {
			t.Error("not empty")
		}
		model := map[int]int{}
		put(t, m, model, 2, 20)
		hold(t, m, model)
	}
}

// Av1, Av2: keys that are numbers, the least and the greatest one among them.
func TestNumbers(t *testing.T) {
	keys := []int{0, math.MaxInt, math.MinInt, -1, 1, math.MaxInt - 1, math.MinInt + 1, 1 << 62, -1 << 62}
	var m Map[int, bool]
	model := map[int]bool{}
	for i, key := range keys {
		put(t, &m, model, key, i%2 == 0)
		hold(t, &m, model)
		ask(t, &m, model, keys...)
	}
	for _, key := range keys {
		drop(t, &m, model, key)
		hold(t, &m, model)
		ask(t, &m, model, keys...)
	}
}

// Av1, Av2: keys that are whole numbers of other types, at their ends.
func TestOtherNumbers(t *testing.T) {
	type kind uint8
	small, most, kinds := map[int8]string{}, map[uint64]string{}, map[kind]string{}
	var s Map[int8, string]
	var u Map[uint64, string]
	var k Map[kind, string]
	for i := range 256 {
		text := strconv.Itoa(i)
		put(t, &s, small, int8(i), text)
		put(t, &u, most, uint64(i)<<56|uint64(i), text)
		put(t, &k, kinds, kind(i*7), text)
	}
	put(t, &u, most, math.MaxUint64, "")
	hold(t, &s, small)
	hold(t, &u, most)
	hold(t, &k, kinds)
	ask(t, &s, small, -128, -127, -1, 0, 1, 127)
	ask(t, &u, most, 0, 1, math.MaxUint64, math.MaxUint64-1, 1<<63)
	ask(t, &k, kinds, 0, 7, 255)
}

// Av1, Av2: keys that are texts, the empty one among them; they rise byte by byte.
func TestTexts(t *testing.T) {
	keys := []string{"b", "", "a", "ab", "\xff", "\x00", "a\x00", "B", "\u00e9", "abc", "aa", "\xff\xff", strings.Repeat("z", 300), "10", "9"}
	var m Map[string, int]
	model := map[string]int{}
	for i, key := range keys {
		put(t, &m, model, key, i)
		hold(t, &m, model)
		ask(t, &m, model, append(keys, "zz", "a ", "\x00\x00")...)
	}
	if k, ok := m.Last(); k != "\xff\xff" || !ok {
		t.Error(k, ok)
	}
	for _, key := range keys {
		drop(t, &m, model, key)
		hold(t, &m, model)
		ask(t, &m, model, keys...)
	}
	put(t, &m, model, "", 5)
	if k, ok := m.Last(); k != "" || !ok {
		t.Error(k, ok)
	}
}

// Av1, Av2: values of more types: structs, pointers, lists and maps; they are answered as they were put.
func TestValues(t *testing.T) {
	type both struct {
		name string
		many int
	}
	var structs Map[int, both]
	model := map[int]both{}
	for i := range 9 {
		put(t, &structs, model, i*4%9, both{strconv.Itoa(i), i})
		hold(t, &structs, model)
	}
	ask(t, &structs, model, -1, 0, 4, 8, 9)
	var pointers Map[string, *both]
	x := &both{"x", 1}
	put(t, &pointers, map[string]*both{}, "x", x)
	if got, ok := pointers.Get("x"); got != x || !ok {
		t.Error(got, ok)
	}
	if got, ok := pointers.Get("y"); got != nil || ok {
		t.Error(got, ok)
	}
	var lists Map[string, []int]
	if !lists.Put("a", []int{1, 2}) || lists.Put("a", nil) || !lists.Put("b", []int{3}) {
		t.Error("Put")
	}
	if got, ok := lists.Get("a"); got != nil || !ok {
		t.Error(got, ok)
	}
	if got, ok := lists.Get("b"); !slices.Equal(got, []int{3}) || !ok {
		t.Error(got, ok)
	}
	var inner Map[int, *Map[int, int]]
	within, its := of(1, 2)
	inner.Put(1, within)
	if got, ok := inner.Get(1); got != within || !ok {
		t.Error(ok)
	}
	hold(t, within, its)
}

// sparse puts keys, level by level, such that the tree is d deep and has no more keys than it must.
func sparse(d int) []int {
	type part struct{ low, deep int }
	var keys []int
	work := []part{{0, d}}
	for len(work) > 0 {
		p := work[0]
		work = work[1:]
		if p.deep < 1 {
			continue
		}
		key := p.low + least(p.deep-1)
		keys = append(keys, key)
		work = append(work, part{p.low, p.deep - 1}, part{key + 1, p.deep - 2})
	}
	return keys
}

// Av3: a map of fewer keys than Least(d) is less than d deep, behind each change; of just as many it may be d deep.
func TestLeast(t *testing.T) {
	if least(2) != 2 || least(3) != 4 || least(4) != 7 || least(5) != 12 {
		t.Fatal("Least")
	}
	for d := range 15 {
		keys := sparse(d)
		m, model := of(keys...)
		if m.Len() != least(d) || m.Depth() != d {
			t.Fatal(d, m.Len(), m.Depth())
		}
		hold(t, m, model)
		// Any that goes makes it less deep than d.
		for _, i := range []int{0, len(keys) / 2, len(keys) - 1} {
			if i < 0 || i >= len(keys) {
				continue
			}
			m, model := of(keys...)
			drop(t, m, model, keys[i])
			hold(t, m, model)
			if m.Depth() >= d {
				t.Error(d, keys[i], m.Depth())
			}
		}
	}
}

// Av3: the keys of the sparsest trees are dropped one by one, from either end, and from the middle.
func TestLeastDropped(t *testing.T) {
	for d := 1; d < 9; d++ {
		for what, order := range runs(least(d)) {
			m, model := of(sparse(d)...)
			for _, key := range order {
				drop(t, m, model, key)
				hold(t, m, model)
			}
			if m.Depth() != 0 {
				t.Error(d, what, m.Depth())
			}
		}
	}
}

// R1: numbers that have no order among themselves (not a number) are a key like any other: no call goes on for ever, or loses others.
func TestNotNumbers(t *testing.T) {
	var m Map[float64, int]
	for range 3 {
		if !m.Put(math.NaN(), 1) || m.Put(math.NaN(), 2) || !m.Put(1, 3) || !m.Put(math.Inf(-1), 4) {
			t.Error("Put")
		}
		if v, ok := m.Get(math.NaN()); v != 2 || !ok || m.Len() != 3 {
			t.Error(v, ok, m.Len())
		}
		if l := m.Keys(); !math.IsNaN(l[0]) || !math.IsInf(l[1], -1) || l[2] != 1 {
			t.Error(l)
		}
		if l := given(m.From(math.Inf(-1))); len(l) != 2 || l[0].value != 4 || l[1].value != 3 || len(given(m.From(math.NaN()))) != 3 {
			t.Error(l)
		}
		if !m.Drop(math.NaN()) || m.Drop(math.NaN()) || !m.Drop(1) || !m.Drop(math.Inf(-1)) || m.Len() != 0 {
			t.Error("Drop", m.Len())
		}
	}
}

// The chapter's example.
func TestExample(t *testing.T) {
	m, model := of(1, 2, 3, 4, 5, 6, 7)
	hold(t, m, model)
	if m.Depth() != 3 && m.Depth() != 4 {
		t.Error(m.Depth())
	}
}
