package plog_test

import (
	"testing"

	"seneschal/api"
)

// learnErrs: that is not learned, and nothing changes.
func (b *book) learnErrs(producer, epoch int) {
	b.t.Helper()
	b.still(func() {
		b.t.Helper()
		if err := b.Learn(producer, epoch); err != api.ErrArg {
			b.t.Errorf("Learn(%d, %d): %v", producer, epoch, err)
		}
	})
}

// TestLearnAtTheBounds: of all producers, of the least and the greatest epoch (P11.1).
func TestLearnAtTheBounds(t *testing.T) {
	for _, epoch := range []int{0, 1, 50, 99, 100} {
		b := newBook(t)
		b.unknown(0, 1, 2, 3, 4, 5, 6, 7)
		for p := range 8 {
			b.learns(p, epoch)
			b.epochIs(p, epoch)
			for other := p + 1; other < 8; other++ {
				b.unknown(other)
			}
		}
	}
}

// TestLearnOutside: ErrArg, of producers that are known and of those that are not (P11.1, P11.3).
func TestLearnOutside(t *testing.T) {
	for _, b := range []*book{newBook(t), bookOf(t, 0, 0, 7), bookOf(t, 100, 0, 1, 2, 3, 4, 5, 6, 7)} {
		for _, p := range outside(0, 7) {
			for _, epoch := range []int{-1, 0, 5, 100, 101} {
				b.learnErrs(p, epoch)
			}
		}
		for _, epoch := range outside(0, 100) {
			for _, p := range []int{-1, 0, 3, 7, 8} {
				b.learnErrs(p, epoch)
			}
		}
	}
}

// TestLearnTheGreaterOne: the epoch never falls (P11.1).
func TestLearnTheGreaterOne(t *testing.T) {
	b := newBook(t)
	for _, step := range [][2]int{{3, 3}, {3, 3}, {2, 3}, {0, 3}, {4, 4}, {3, 4}, {9, 9}, {100, 100}, {99, 100}, {0, 100}, {100, 100}} {
		b.learns(2, step[0])
		b.epochIs(2, step[1])
		b.unknown(0, 1, 3)
	}
}

// TestLearnByPairs: of any two epochs, in any order, the greater one (P11.1).
func TestLearnByPairs(t *testing.T) {
	for first := range 101 {
		for second := range 101 {
			b := newBook(t)
			b.learns(5, first)
			b.learns(5, second)
			b.epochIs(5, max(first, second))
		}
	}
}

// TestLearnLeavesWhatIsThere: a greater epoch takes no record away and ends nothing; the same and a lesser one do nothing at all (P11.1).
func TestLearnLeavesWhatIsThere(t *testing.T) {
	b := bookOf(t, 3, 0, 1)
	b.lays(rec(0, 3, 1, 0, "a"), 0)
	b.lays(rec(1, 3, 1, 0, "b"), 1)
	b.lays(rec(0, 3, 1, 1, "c"), 2)
	b.still(func() {
		b.learns(0, 3)
		b.learns(0, 2)
		b.learns(0, 0)
	})
	b.lays(rec(0, 3, 1, 2, "d"), 3)
	b.learns(0, 4)
	b.spansAre(span(0, 3, 1, 0, isOpen), span(1, 3, 1, 1, isOpen))
	if b.Len() != 4 {
		t.Error(b.Len())
	}
	b.stableIs(0)
	b.lays(rec(1, 3, 1, 1, "e"), 4)
}

// TestEpochOfNone: outside the numbers that may be (P11.2).
func TestEpochOfNone(t *testing.T) {
	for _, b := range []*book{newBook(t), bookOf(t, 7, 0, 1, 2, 3, 4, 5, 6, 7)} {
		b.unknown(outside(0, 7)...)
	}
}

// TestOnlyLearnTellsAnEpoch: Append and End do not (P11.1, P11.2).
func TestOnlyLearnTellsAnEpoch(t *testing.T) {
	b := bookOf(t, 1, 1)
	b.ends(2, 9, 4, true)
	b.ends(1, 9, 4, true)
	b.errs(rec(2, 9, 5, 0, ""), api.ErrNone)
	b.errs(rec(1, 9, 5, 0, ""), api.ErrState)
	b.unknown(2)
	b.epochIs(1, 1)
}
