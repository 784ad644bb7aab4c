package hold_test

import (
	"errors"
	"iter"
	"maps"
	"math"
	"slices"
	"testing"

	"seneschal/hold"
)

// pair is what a ranging tells at a time.
type pair[V any] struct {
	key   int
	value V
}

func collect[V any](seq iter.Seq2[int, V]) []pair[V] {
	told := []pair[V]{}
	for k, v := range seq {
		told = append(told, pair[V]{k, v})
	}
	return told
}

// holds: the table tells what the map holds, by every call that tells something (P3.1).
func holds[V comparable](t *testing.T, table *hold.Table[V], want map[int]V) {
	t.Helper()
	keys := slices.Sorted(maps.Keys(want))
	if got := table.Keys(); !slices.Equal(got, keys) {
		t.Fatalf("Keys: %v, not %v", got, keys)
	}
	if got := table.Len(); got != len(want) {
		t.Fatalf("Len: %d, not %d", got, len(want))
	}
	all := []pair[V]{}
	for _, k := range keys {
		all = append(all, pair[V]{k, want[k]})
		if v, ok := table.Get(k); !ok || v != want[k] {
			t.Fatalf("Get(%d): %v %v, not %v", k, v, ok, want[k])
		}
	}
	if got := collect(table.All()); !slices.Equal(got, all) {
		t.Fatalf("All: %v, not %v", got, all)
	}
	for i, k := range keys {
		if got := collect(table.From(k)); !slices.Equal(got, all[i:]) {
			t.Fatalf("From(%d): %v, not %v", k, got, all[i:])
		}
	}
}

// lacks: a key that is not there has the zero value and false, and there is nothing to delete (P3.1).
func lacks[V comparable](t *testing.T, table *hold.Table[V], k int) {
	t.Helper()
	var none V
	if v, ok := table.Get(k); v != none || ok {
		t.Errorf("Get(%d): %v %v, though it is not there", k, v, ok)
	}
	before := table.Len()
	if table.Del(k) || table.Len() != before {
		t.Errorf("Del(%d) took one away that is not there", k)
	}
}

func TestTheDocumentsExample(t *testing.T) {
	table := hold.New[string]()
	table.Set(5, "five")
	table.Set(2, "two")
	if got := table.Keys(); !slices.Equal(got, []int{2, 5}) {
		t.Error(got)
	}
	holds(t, table, map[int]string{5: "five", 2: "two"})
}

func TestNewHoldsNothing(t *testing.T) {
	table := hold.New[string]()
	holds(t, table, nil)
	lacks(t, table, 0)
	if hold.New[string]() == table {
		t.Error("two tables are one")
	}
}

func TestTheZeroTableHoldsNothing(t *testing.T) {
	var table hold.Table[int]
	holds(t, &table, nil)
	lacks(t, &table, 0)
	table.Set(1, 2)
	holds(t, &table, map[int]int{1: 2})
}

func TestTablesAreApart(t *testing.T) {
	one, other := hold.New[int](), hold.New[int]()
	one.Set(1, 10)
	other.Set(1, 20)
	other.Set(2, 30)
	one.Del(2)
	holds(t, one, map[int]int{1: 10})
	holds(t, other, map[int]int{1: 20, 2: 30})
}

// orders are all orders of the keys.
func orders(keys []int) [][]int {
	if len(keys) == 0 {
		return [][]int{nil}
	}
	all := [][]int{}
	for i, k := range keys {
		for _, rest := range orders(slices.Delete(slices.Clone(keys), i, i+1)) {
			all = append(all, append([]int{k}, rest...))
		}
	}
	return all
}

// TestSetAndDelInAnyOrder: six keys set in every order, and deleted in that order and in the other one.
func TestSetAndDelInAnyOrder(t *testing.T) {
	for _, order := range orders([]int{-7, -1, 0, 3, 4, 90}) {
		for range 2 {
			table, want := hold.New[int](), map[int]int{}
			for _, k := range order {
				lacks(t, table, k)
				table.Set(k, 2*k+1)
				want[k] = 2*k + 1
				holds(t, table, want)
			}
			slices.Reverse(order)
			for _, k := range order {
				if !table.Del(k) {
					t.Fatalf("%v: Del(%d) found nothing", order, k)
				}
				delete(want, k)
				lacks(t, table, k)
				holds(t, table, want)
			}
		}
	}
}

func TestSetAgain(t *testing.T) {
	table := hold.New[string]()
	table.Set(5, "five")
	table.Set(2, "two")
	table.Set(9, "nine")
	for _, k := range []int{5, 2, 9, 5} {
		table.Set(k, "again")
	}
	table.Set(5, "and again")
	holds(t, table, map[int]string{2: "again", 5: "and again", 9: "again"})
}

func TestDelAgainAndSetOnceMore(t *testing.T) {
	table := hold.New[string]()
	table.Set(5, "five")
	table.Set(2, "two")
	if !table.Del(5) {
		t.Error("Del did not find what is there")
	}
	if table.Del(5) {
		t.Error("Del found what it took away")
	}
	lacks(t, table, 5)
	holds(t, table, map[int]string{2: "two"})
	table.Set(5, "new")
	holds(t, table, map[int]string{2: "two", 5: "new"})
	if !table.Del(5) || !table.Del(2) || table.Del(2) {
		t.Error("Del did not take away what was set once more")
	}
	holds(t, table, nil)
}

func TestKeysAtTheEndsOfInt(t *testing.T) {
	table := hold.New[int]()
	want := map[int]int{}
	for i, k := range []int{math.MaxInt, -1, math.MinInt, 0, math.MaxInt - 1, 1, math.MinInt + 1, math.MinInt32, math.MaxUint32} {
		table.Set(k, i)
		want[k] = i
		holds(t, table, want)
	}
	table.Del(math.MinInt)
	table.Del(math.MaxInt)
	delete(want, math.MinInt)
	delete(want, math.MaxInt)
	lacks(t, table, math.MinInt)
	lacks(t, table, math.MaxInt)
	holds(t, table, want)
}

func TestFromAKey(t *testing.T) {
	table := hold.New[int]()
	for _, k := range []int{4, math.MaxInt, -2, 10, math.MinInt, 7} {
		table.Set(k, k/2)
	}
	for _, c := range []struct {
		name string
		from int
		keys []int
	}{
		{"the least", math.MinInt, []int{math.MinInt, -2, 4, 7, 10, math.MaxInt}},
		{"above the least", math.MinInt + 1, []int{-2, 4, 7, 10, math.MaxInt}},
		{"below 0 and there", -2, []int{-2, 4, 7, 10, math.MaxInt}},
		{"between two", -1, []int{4, 7, 10, math.MaxInt}},
		{"0", 0, []int{4, 7, 10, math.MaxInt}},
		{"there", 7, []int{7, 10, math.MaxInt}},
		{"behind one that is there", 8, []int{10, math.MaxInt}},
		{"ahead of one that is there", 9, []int{10, math.MaxInt}},
		{"above all but the greatest", 11, []int{math.MaxInt}},
		{"the greatest", math.MaxInt, []int{math.MaxInt}},
	} {
		told := collect(table.From(c.from))
		keys := []int{}
		for _, p := range told {
			keys = append(keys, p.key)
			if p.value != p.key/2 {
				t.Errorf("%s: %d has %d", c.name, p.key, p.value)
			}
		}
		if !slices.Equal(keys, c.keys) {
			t.Errorf("%s: From(%d): %v, not %v", c.name, c.from, keys, c.keys)
		}
	}
}

func TestFromBelowAndAboveAll(t *testing.T) {
	table := hold.New[string]()
	table.Set(3, "three")
	table.Set(1, "one")
	both := []pair[string]{{1, "one"}, {3, "three"}}
	for _, k := range []int{math.MinInt, -5, 0} {
		if got := collect(table.From(k)); !slices.Equal(got, both) {
			t.Errorf("From(%d): %v", k, got)
		}
	}
	for _, k := range []int{4, 100, math.MaxInt} {
		if got := collect(table.From(k)); len(got) != 0 {
			t.Errorf("From(%d): %v", k, got)
		}
	}
}

// zeroIsThere: a zero value is a value like others.
func zeroIsThere[V comparable](t *testing.T, other V) {
	t.Helper()
	var zero V
	table := hold.New[V]()
	table.Set(3, zero)
	holds(t, table, map[int]V{3: zero})
	lacks(t, table, 4)
	table.Set(3, other)
	holds(t, table, map[int]V{3: other})
	table.Set(3, zero)
	table.Set(4, other)
	holds(t, table, map[int]V{3: zero, 4: other})
	if !table.Del(3) || table.Del(3) {
		t.Error("Del of a zero value")
	}
	lacks(t, table, 3)
	holds(t, table, map[int]V{4: other})
}

func TestValuesOfSeveralTypes(t *testing.T) {
	type place struct {
		name string
		at   [2]int
	}
	zeroIsThere(t, 7)
	zeroIsThere(t, "text")
	zeroIsThere(t, true)
	zeroIsThere(t, 2.5)
	zeroIsThere(t, [3]byte{1, 2, 3})
	zeroIsThere(t, place{"here", [2]int{1, 2}})
	zeroIsThere(t, new(int))
	zeroIsThere(t, &place{})
	zeroIsThere[any](t, "anything")
	zeroIsThere(t, errors.New("error"))
	zeroIsThere(t, struct{}{})
}

func TestValuesThatCannotBeCompared(t *testing.T) {
	rows := hold.New[[]string]()
	rows.Set(2, []string{"b"})
	rows.Set(1, nil)
	if v, ok := rows.Get(2); !ok || !slices.Equal(v, []string{"b"}) {
		t.Error(v, ok)
	}
	if v, ok := rows.Get(1); v != nil || !ok {
		t.Error(v, ok)
	}
	if v, ok := rows.Get(3); v != nil || ok {
		t.Error(v, ok)
	}
	works := hold.New[func() int]()
	works.Set(1, func() int { return 8 })
	if f, ok := works.Get(1); !ok || f() != 8 {
		t.Error("a function")
	}
	tables := hold.New[*hold.Table[int]]()
	tables.Set(1, hold.New[int]())
	inner, _ := tables.Get(1)
	inner.Set(6, 5)
	again, _ := tables.Get(1)
	holds(t, again, map[int]int{6: 5})
}

// TestAgainstAMap: many calls without any order, on few keys and on many.
func TestAgainstAMap(t *testing.T) {
	for _, width := range []uint32{8, 60, 1000} {
		table, want := hold.New[int](), map[int]int{}
		state := width
		next := func(below uint32) int {
			state = state*1664525 + 1013904223
			return int((state >> 8) % below)
		}
		for step := range 3000 {
			k := next(width) - int(width/2)
			if _, there := want[k]; next(5) < 2 {
				if table.Del(k) != there {
					t.Fatalf("step %d: Del(%d) is not %v", step, k, there)
				}
				delete(want, k)
				lacks(t, table, k)
			} else {
				table.Set(k, step)
				want[k] = step
			}
			if step%50 == 0 {
				holds(t, table, want)
			}
		}
		holds(t, table, want)
	}
}

// TestKeysAreNewMemory: W6 and W7.
func TestKeysAreNewMemory(t *testing.T) {
	table := hold.New[int]()
	for _, k := range []int{5, 2, 9} {
		table.Set(k, k)
	}
	first, second := table.Keys(), table.Keys()
	for i := range first {
		first[i] = 77
	}
	room := first[:cap(first)]
	for i := range room {
		room[i] = 78
	}
	_ = append(first, 79)
	if !slices.Equal(second, []int{2, 5, 9}) || !slices.Equal(table.Keys(), []int{2, 5, 9}) {
		t.Error("what Keys answered is shared", second, table.Keys())
	}
	holds(t, table, map[int]int{2: 2, 5: 5, 9: 9})
}

func TestKeysStayWhatTheyAre(t *testing.T) {
	table := hold.New[int]()
	for _, k := range []int{5, 2, 9} {
		table.Set(k, k)
	}
	keys := table.Keys()
	table.Set(1, 1)
	table.Set(5, 50)
	table.Set(7, 7)
	table.Del(2)
	table.Del(9)
	table.Keys()
	if !slices.Equal(keys, []int{2, 5, 9}) {
		t.Error(keys)
	}
}

// TestValuesStayWhatTheyAre: what Get answered is not what is set later (W7).
func TestValuesStayWhatTheyAre(t *testing.T) {
	table := hold.New[[2]int]()
	table.Set(1, [2]int{3, 4})
	v, _ := table.Get(1)
	table.Set(1, [2]int{5, 6})
	table.Del(1)
	if v != [2]int{3, 4} {
		t.Error(v)
	}
	table.Set(2, v)
	v[0] = 9
	holds(t, table, map[int][2]int{2: {3, 4}})
}
