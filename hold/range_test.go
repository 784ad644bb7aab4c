package hold_test

import (
	"iter"
	"math"
	"slices"
	"testing"

	"seneschal/hold"
)

func tens() *hold.Table[string] {
	table := hold.New[string]()
	for _, k := range []int{30, 10, 50, 20, 40} {
		table.Set(k, "old")
	}
	return table
}

// rangings are both ways to range over all of tens.
func rangings(table *hold.Table[string]) map[string]iter.Seq2[int, string] {
	return map[string]iter.Seq2[int, string]{
		"All":          table.All(),
		"From(10)":     table.From(10),
		"From(5)":      table.From(5),
		"From the end": table.From(math.MinInt),
	}
}

func asOld(keys ...int) []pair[string] {
	told := []pair[string]{}
	for _, k := range keys {
		told = append(told, pair[string]{k, "old"})
	}
	return told
}

// TestRangingEndsWhereItIsStopped: P3.2; a ranging that went on would panic.
func TestRangingEndsWhereItIsStopped(t *testing.T) {
	keys := []int{10, 20, 30, 40, 50}
	table := tens()
	for name, seq := range rangings(table) {
		for most := 1; most <= len(keys); most++ {
			told := []int{}
			for k := range seq {
				told = append(told, k)
				if len(told) == most {
					break
				}
			}
			if !slices.Equal(told, keys[:most]) {
				t.Errorf("%s, stopped at %d: %v", name, most, told)
			}
		}
	}
	told := []int{}
	for k := range table.From(25) {
		told = append(told, k)
		if k == 40 {
			break
		}
	}
	if !slices.Equal(told, []int{30, 40}) {
		t.Error("From(25), stopped at 40:", told)
	}
}

// TestNoCallBehindTheEnd counts what is yielded behind a false, whatever the shape of the table.
func TestNoCallBehindTheEnd(t *testing.T) {
	for size := 1; size <= 40; size++ {
		table := hold.New[int]()
		for k := range size {
			table.Set(k, k)
		}
		for stop := range size {
			calls := 0
			table.All()(func(k, _ int) bool {
				calls++
				return k < stop
			})
			if calls != stop+1 {
				t.Fatalf("of %d keys, stopped at %d: %d calls", size, stop, calls)
			}
		}
	}
}

func TestARangingWithoutARanger(t *testing.T) {
	table := tens()
	table.All()(nil)
	table.From(20)(nil)
	if got := collect(table.All()); !slices.Equal(got, asOld(10, 20, 30, 40, 50)) {
		t.Error(got)
	}
}

func TestRangedOverAgain(t *testing.T) {
	for name, seq := range rangings(tens()) {
		for range seq {
			break
		}
		for i := range 3 {
			if got := collect(seq); !slices.Equal(got, asOld(10, 20, 30, 40, 50)) {
				t.Errorf("%s, ranging %d: %v", name, i, got)
			}
		}
	}
}

// TestRangedOverWithinItself: one that is ranged over twice at the same time.
func TestRangedOverWithinItself(t *testing.T) {
	for name, seq := range rangings(tens()) {
		n := 0
		for range seq {
			for range seq {
				n++
			}
		}
		if n != 25 {
			t.Errorf("%s: %d", name, n)
		}
	}
}

// TestWhatIsThereWhenTheRangingBegins, and not when All or From was called.
func TestWhatIsThereWhenTheRangingBegins(t *testing.T) {
	table := tens()
	seqs := rangings(table)
	table.Set(25, "old")
	table.Set(60, "old")
	table.Set(10, "new")
	table.Del(20)
	want := []pair[string]{{10, "new"}, {25, "old"}, {30, "old"}, {40, "old"}, {50, "old"}, {60, "old"}}
	for name, seq := range seqs {
		if got := collect(seq); !slices.Equal(got, want) {
			t.Errorf("%s: %v", name, got)
		}
	}
	table.Set(30, "newer")
	table.Del(60)
	want = []pair[string]{{10, "new"}, {25, "old"}, {30, "newer"}, {40, "old"}, {50, "old"}}
	for name, seq := range seqs {
		if got := collect(seq); !slices.Equal(got, want) {
			t.Errorf("%s, ranged over again: %v", name, got)
		}
	}
}

func TestARangingOfATableThatWasEmpty(t *testing.T) {
	table := hold.New[string]()
	seqs := rangings(table)
	for name, seq := range seqs {
		if got := collect(seq); len(got) != 0 {
			t.Errorf("%s of none: %v", name, got)
		}
	}
	table.Set(10, "old")
	for name, seq := range seqs {
		if got := collect(seq); !slices.Equal(got, asOld(10)) {
			t.Errorf("%s of one: %v", name, got)
		}
	}
}

// deeds are what may be done to tens while it is ranged over, at its second key.
var deeds = []struct {
	name string
	do   func(*hold.Table[string])
	left []int
}{
	{"set to come", func(x *hold.Table[string]) { x.Set(35, "new"); x.Set(60, "new") }, []int{10, 20, 30, 35, 40, 50, 60}},
	{"set gone by", func(x *hold.Table[string]) { x.Set(15, "new"); x.Set(-1, "new") }, []int{-1, 10, 15, 20, 30, 40, 50}},
	{"set again to come", func(x *hold.Table[string]) { x.Set(30, "new"); x.Set(50, "new") }, []int{10, 20, 30, 40, 50}},
	{"set again here", func(x *hold.Table[string]) { x.Set(20, "new") }, []int{10, 20, 30, 40, 50}},
	{"delete to come", func(x *hold.Table[string]) { x.Del(30); x.Del(50) }, []int{10, 20, 40}},
	{"delete the next", func(x *hold.Table[string]) { x.Del(30) }, []int{10, 20, 40, 50}},
	{"delete here", func(x *hold.Table[string]) { x.Del(20) }, []int{10, 30, 40, 50}},
	{"delete gone by", func(x *hold.Table[string]) { x.Del(10) }, []int{20, 30, 40, 50}},
	{"delete and set anew", func(x *hold.Table[string]) { x.Del(40); x.Set(40, "new") }, []int{10, 20, 30, 40, 50}},
	{"delete all", func(x *hold.Table[string]) {
		for _, k := range x.Keys() {
			x.Del(k)
		}
	}, []int{}},
	{"set many", func(x *hold.Table[string]) {
		for _, k := range []int{31, 32, 33, 34, 36, 37, 38, 39} {
			x.Set(k, "new")
		}
	}, []int{10, 20, 30, 31, 32, 33, 34, 36, 37, 38, 39, 40, 50}},
}

// TestWhateverIsDoneMeanwhile: P3.2.
func TestWhateverIsDoneMeanwhile(t *testing.T) {
	for _, deed := range deeds {
		for name := range rangings(nil) {
			table := tens()
			told := []pair[string]{}
			for k, v := range rangings(table)[name] {
				told = append(told, pair[string]{k, v})
				if k == 20 {
					deed.do(table)
				}
			}
			if !slices.Equal(told, asOld(10, 20, 30, 40, 50)) {
				t.Errorf("%s, %s: %v", name, deed.name, told)
			}
			if got := table.Keys(); !slices.Equal(got, deed.left) {
				t.Errorf("%s, %s: left are %v", name, deed.name, got)
			}
		}
	}
}

// TestDoneAtEveryStep: each key is deleted, set and set again at each step of a ranging over many.
func TestDoneAtEveryStep(t *testing.T) {
	const size = 200
	table := hold.New[int]()
	for k := range size {
		table.Set(3*k, k)
	}
	n := 0
	for k, v := range table.All() {
		if k != 3*n || v != n {
			t.Fatalf("%d: %d %d", n, k, v)
		}
		n++
		table.Del(k + 3)
		table.Set(k+1, -1)
		table.Set(k+6, -2)
		table.Set(-k, -3)
	}
	if n != size {
		t.Errorf("%d of %d", n, size)
	}
}

// TestTwoRangingsAtOnce: each tells what was there when it began.
func TestTwoRangingsAtOnce(t *testing.T) {
	table := tens()
	outer, inner := []int{}, []int{}
	for k := range table.All() {
		outer = append(outer, k)
		table.Del(k)
		if k == 20 {
			for j := range table.From(0) {
				inner = append(inner, j)
				table.Set(j+1, "new")
			}
		}
	}
	if !slices.Equal(outer, []int{10, 20, 30, 40, 50}) || !slices.Equal(inner, []int{30, 40, 50}) {
		t.Error(outer, inner)
	}
	if got := table.Keys(); !slices.Equal(got, []int{31, 41, 51}) {
		t.Error(got)
	}
}

// TestRangingHandInHand: two rangings that take turns, with a deed between them.
func TestRangingHandInHand(t *testing.T) {
	table := tens()
	first, stopFirst := iter.Pull2(table.All())
	defer stopFirst()
	first()
	table.Del(20)
	table.Set(45, "new")
	second, stopSecond := iter.Pull2(table.From(20))
	defer stopSecond()
	got := []int{}
	for range 5 {
		k, _, _ := first()
		j, _, _ := second()
		got = append(got, k, j)
		table.Del(j)
	}
	if !slices.Equal(got, []int{20, 30, 30, 40, 40, 45, 50, 50, 0, 0}) {
		t.Error(got)
	}
}

// TestNilTable: Set does nothing, all else tells nothing (P3.2, W8).
func TestNilTable(t *testing.T) {
	var none *hold.Table[string]
	seqs := rangings(none)
	none.Set(1, "one")
	none.Set(math.MinInt, "least")
	for _, k := range []int{0, 1, -1, math.MinInt, math.MaxInt} {
		lacks(t, none, k)
	}
	holds(t, none, nil)
	for name, seq := range seqs {
		if got := collect(seq); len(got) != 0 {
			t.Errorf("%s: %v", name, got)
		}
		seq(nil)
	}
}
