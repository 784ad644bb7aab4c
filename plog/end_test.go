package plog_test

import (
	"testing"

	"seneschal/api"
)

// TestEndAtTheBounds: all that may be is ended, be it known or not (P11.2).
func TestEndAtTheBounds(t *testing.T) {
	for _, commit := range []bool{true, false} {
		b := newBook(t)
		var want []api.Span
		for _, p := range []int{0, 7, 3} {
			for _, epoch := range []int{0, 100, 50} {
				for _, txn := range []int{1, 100, 50} {
					b.ends(p, epoch, txn, commit)
					want = append(want, span(p, epoch, txn, -1, kindOf(commit)))
				}
			}
		}
		b.spansAre(want...)
	}
}

// TestEndOutside: ErrArg, and nothing is ended (P11.2, P11.3).
func TestEndOutside(t *testing.T) {
	for _, b := range []*book{newBook(t), bookOf(t, 0, 0, 1, 2, 3, 4, 5, 6, 7)} {
		for _, commit := range []bool{true, false} {
			for _, p := range outside(0, 7) {
				b.endErrs(p, 0, 1, commit, api.ErrArg)
			}
			for _, epoch := range outside(0, 100) {
				b.endErrs(1, epoch, 1, commit, api.ErrArg)
			}
			for _, txn := range append(outside(1, 100), 0, -1) {
				b.endErrs(1, 0, txn, commit, api.ErrArg)
			}
		}
		b.spansAre()
	}
}

// TestEndOfAnOpenOne, and again so, and the other way (P11.2).
func TestEndOfAnOpenOne(t *testing.T) {
	for _, commit := range []bool{true, false} {
		b := bookOf(t, 0, 1)
		b.lays(rec(1, 0, 4, 0, "a"), 0)
		b.lays(rec(1, 0, 4, 1, "b"), 1)
		b.spansAre(span(1, 0, 4, 0, isOpen))
		b.ends(1, 0, 4, commit)
		b.spansAre(span(1, 0, 4, 0, kindOf(commit)))
		b.endErrs(1, 0, 4, commit, api.OK)
		b.endErrs(1, 0, 4, !commit, api.ErrState)
		b.endErrs(1, 0, 4, commit, api.OK)
	}
}

// TestEndOfOneWithoutARecord, and again so, and the other way (P11.2).
func TestEndOfOneWithoutARecord(t *testing.T) {
	for _, commit := range []bool{true, false} {
		b := bookOf(t, 0, 1)
		b.ends(1, 0, 4, commit)
		b.spansAre(span(1, 0, 4, -1, kindOf(commit)))
		b.endErrs(1, 0, 4, commit, api.OK)
		b.endErrs(1, 0, 4, !commit, api.ErrState)
		b.endErrs(1, 0, 4, commit, api.OK)
		b.stableIs(0)
		if b.Len() != 0 {
			t.Error(b.Len())
		}
	}
}

// TestEndOfAnyEpoch: elder than what is known, later than it, or of one who is not known at all (P11.2).
func TestEndOfAnyEpoch(t *testing.T) {
	for _, commit := range []bool{true, false} {
		kind := kindOf(commit)
		b := bookOf(t, 3, 1)
		b.lays(rec(1, 3, 1, 0, "a"), 0)
		b.learns(1, 5)
		b.lays(rec(1, 5, 1, 0, "a"), 1)
		b.ends(1, 4, 1, commit)
		b.ends(1, 6, 1, commit)
		b.ends(2, 3, 1, commit)
		b.ends(1, 3, 1, commit)
		b.ends(1, 3, 2, commit)
		b.spansAre(span(1, 3, 1, 0, kind), span(1, 5, 1, 1, isOpen), span(1, 4, 1, -1, kind), span(1, 6, 1, -1, kind), span(2, 3, 1, -1, kind), span(1, 3, 2, -1, kind))
		b.endErrs(1, 4, 1, !commit, api.ErrState)
		b.endErrs(1, 6, 1, !commit, api.ErrState)
		b.endErrs(2, 3, 1, !commit, api.ErrState)
		b.endErrs(1, 3, 1, !commit, api.ErrState)
		b.ends(1, 5, 1, !commit)
		b.learns(2, 3)
		b.learns(1, 6)
		b.endErrs(2, 3, 1, !commit, api.ErrState)
		b.endErrs(2, 3, 1, commit, api.OK)
		b.endErrs(1, 6, 1, commit, api.OK)
	}
}

// TestEndOfOneLeavesTheOthers: of other numbers, epochs and producers (P11.2).
func TestEndOfOneLeavesTheOthers(t *testing.T) {
	b := bookOf(t, 0, 1, 2)
	b.lays(rec(1, 0, 1, 0, "a"), 0)
	b.lays(rec(2, 0, 1, 0, "b"), 1)
	b.learns(2, 1)
	b.lays(rec(2, 1, 1, 0, "c"), 2)
	b.ends(2, 0, 1, false)
	b.spansAre(span(1, 0, 1, 0, isOpen), span(2, 0, 1, 1, aborts), span(2, 1, 1, 2, isOpen))
	b.ends(2, 1, 1, true)
	b.spansAre(span(1, 0, 1, 0, isOpen), span(2, 0, 1, 1, aborts), span(2, 1, 1, 2, commits))
	b.lays(rec(1, 0, 1, 1, "d"), 3)
	b.ends(1, 0, 2, true)
	b.lays(rec(1, 0, 1, 2, "e"), 4)
}

// TestSpansInTheOrderInWhichTheyCame: by the first record or the ending, not by their numbers (P11.2).
func TestSpansInTheOrderInWhichTheyCame(t *testing.T) {
	b := bookOf(t, 2, 7, 0, 3)
	b.spansAre()
	b.lays(rec(7, 2, 9, 0, "a"), 0)
	b.ends(0, 2, 5, false)
	b.lays(rec(0, 2, 4, 0, "a"), 1)
	b.ends(0, 1, 1, true)
	b.lays(rec(7, 2, 9, 1, "b"), 2)
	b.lays(rec(3, 2, 1, 0, "a"), 3)
	b.ends(0, 2, 4, true)
	b.ends(7, 2, 9, false)
	b.lays(rec(7, 2, 8, 2, "c"), 4)
	b.lays(rec(0, 2, 3, 1, "b"), 5)
	b.ends(0, 2, 5, false)
	b.spansAre(span(7, 2, 9, 0, aborts), span(0, 2, 5, -1, aborts), span(0, 2, 4, 1, commits), span(0, 1, 1, -1, commits), span(3, 2, 1, 3, isOpen), span(7, 2, 8, 4, isOpen), span(0, 2, 3, 5, isOpen))
}

// TestSpansOfAllThatMayBe: every transaction there is may be ended, in any order (P11.2).
func TestSpansOfAllThatMayBe(t *testing.T) {
	b := newBook(t)
	count := 8 * 101 * 100
	place := func(i int) (p, epoch, txn int) {
		i = i * 7919 % count
		return i % 8, i / 8 % 101, i/808 + 1
	}
	for i := range count {
		p, epoch, txn := place(i)
		if err := b.End(p, epoch, txn, i%3 > 0); err != api.OK {
			t.Fatal(p, epoch, txn, err)
		}
	}
	l := b.Spans()
	if len(l) != count {
		t.Fatal(len(l))
	}
	for i, s := range l {
		p, epoch, txn := place(i)
		if s != span(p, epoch, txn, -1, kindOf(i%3 > 0)) {
			t.Fatal(i, s)
		}
		if err := b.End(p, epoch, txn, i%3 == 0); err != api.ErrState {
			t.Fatal(i, s, err)
		}
	}
}

// TestFirst is the first record's offset, however many come behind it (P11.2).
func TestFirst(t *testing.T) {
	b := bookOf(t, 0, 1, 2)
	for i := range 5 {
		b.lays(rec(1, 0, 1, i, "a"), 2*i)
		b.lays(rec(2, 0, 1, i, "a"), 2*i+1)
		b.spansAre(span(1, 0, 1, 0, isOpen), span(2, 0, 1, 1, isOpen))
	}
	b.ends(2, 0, 1, true)
	b.lays(rec(2, 0, 2, 5, "a"), 10)
	b.lays(rec(2, 0, 2, 6, "a"), 11)
	b.spansAre(span(1, 0, 1, 0, isOpen), span(2, 0, 1, 1, commits), span(2, 0, 2, 10, isOpen))
}
