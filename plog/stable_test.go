package plog_test

import "testing"

// TestStableWhereNoneIsOpen: Len (P11.2).
func TestStableWhereNoneIsOpen(t *testing.T) {
	b := bookOf(t, 0, 1)
	b.stableIs(0)
	b.ends(1, 0, 9, true)
	b.stableIs(0)
	for i := range 5 {
		b.lays(rec(1, 0, i+1, i, "a"), i)
		b.stableIs(i)
		b.ends(1, 0, i+1, i%2 == 0)
		b.stableIs(i + 1)
	}
}

// TestStableWhereOneIsOpen: its First, however long it is, and whatever is ended behind it (P11.2).
func TestStableWhereOneIsOpen(t *testing.T) {
	b := bookOf(t, 0, 1, 2)
	b.lays(rec(2, 0, 1, 0, "a"), 0)
	b.lays(rec(2, 0, 1, 1, "b"), 1)
	b.ends(2, 0, 1, true)
	b.lays(rec(1, 0, 1, 0, "a"), 2)
	for i := range 6 {
		b.lays(rec(2, 0, i+2, i+2, "c"), 2*i+3)
		b.lays(rec(1, 0, 1, i+1, "b"), 2*i+4)
		b.ends(2, 0, i+2, i%2 > 0)
		b.stableIs(2)
	}
	b.ends(1, 0, 1, false)
	b.stableIs(15)
}

// TestStableOfSeveralProducers: the least First of those that are open, in whatever order they are ended (P11.2).
func TestStableOfSeveralProducers(t *testing.T) {
	for _, x := range []struct{ order, want [4]int }{
		{[4]int{0, 1, 2, 3}, [4]int{1, 2, 3, 8}},
		{[4]int{3, 2, 1, 0}, [4]int{0, 0, 0, 8}},
		{[4]int{1, 0, 3, 2}, [4]int{0, 2, 2, 8}},
		{[4]int{2, 0, 1, 3}, [4]int{0, 1, 3, 8}},
	} {
		b := bookOf(t, 0, 0, 1, 2, 3)
		for i := range 8 {
			b.lays(rec(i%4, 0, 1, i/4, "a"), i)
		}
		b.stableIs(0)
		for i, p := range x.order {
			b.ends(p, 0, 1, i%2 == 0)
			b.stableIs(x.want[i])
		}
	}
}

// TestStableBehindAnEnding: of one of the middle, of the first one, and what is open behind it (P11.2).
func TestStableBehindAnEnding(t *testing.T) {
	b := bookOf(t, 0, 1, 2)
	b.lays(rec(1, 0, 1, 0, "a"), 0)
	b.lays(rec(2, 0, 1, 0, "a"), 1)
	b.lays(rec(1, 0, 1, 1, "b"), 2)
	b.ends(1, 0, 1, true)
	b.stableIs(1)
	b.lays(rec(1, 0, 2, 2, "c"), 3)
	b.stableIs(1)
	b.ends(2, 0, 1, false)
	b.stableIs(3)
	b.ends(1, 0, 3, false) // has no record
	b.stableIs(3)
	b.ends(1, 0, 2, true)
	b.stableIs(4)
}

// TestStableWhereAnElderEpochsIsOpen: it is open until it is ended, whatever epoch is known (P11.2).
func TestStableWhereAnElderEpochsIsOpen(t *testing.T) {
	b := bookOf(t, 0, 1)
	b.lays(rec(1, 0, 1, 0, "a"), 0)
	b.learns(1, 4)
	b.stableIs(0)
	b.lays(rec(1, 4, 1, 0, "a"), 1)
	b.stableIs(0)
	b.ends(1, 4, 1, true)
	b.stableIs(0)
	b.lays(rec(1, 4, 2, 1, "b"), 2)
	b.ends(1, 0, 2, true)
	b.stableIs(0)
	b.ends(1, 0, 1, false)
	b.stableIs(2)
	b.learns(1, 9)
	b.stableIs(2)
	b.ends(1, 4, 2, true)
	b.stableIs(3)
}

// TestStableOfAFullLog (P11.2).
func TestStableOfAFullLog(t *testing.T) {
	b := full(t)
	b.stableIs(0)
	b.ends(1, 0, 1, true)
	b.stableIs(128)
}
