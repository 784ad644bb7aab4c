package plog_test

import (
	"math"
	"testing"

	"seneschal/api"
	"seneschal/plog"
)

// TestNilLog: ErrArg of all that answer an error, of all else nothing; its Records are none (P11.3, W8).
func TestNilLog(t *testing.T) {
	var none *plog.Log
	for _, n := range []int{math.MinInt, -1, 0, 1, 7, 8, 100, 101, math.MaxInt} {
		if err := none.Learn(n, 0); err != api.ErrArg {
			t.Error(n, err)
		}
		if offset, err := none.Append(rec(n, 0, 1, 0, "a")); offset != 0 || err != api.ErrArg {
			t.Error(n, offset, err)
		}
		for _, commit := range []bool{true, false} {
			if err := none.End(n, 0, 1, commit); err != api.ErrArg {
				t.Error(n, err)
			}
		}
		if epoch, ok := none.Epoch(n); epoch != 0 || ok {
			t.Error(n, epoch, ok)
		}
		if none.Records(n) == nil {
			t.Error(n, "cannot be ranged over")
		}
		for i, r := range none.Records(n) {
			t.Error(i, r)
		}
	}
	if none.Len() != 0 || none.Stable() != 0 || len(none.Spans()) != 0 {
		t.Error(none.Len(), none.Stable(), none.Spans())
	}
}

// TestTheZeroLog: one that New did not make is empty, and takes what any other takes.
func TestTheZeroLog(t *testing.T) {
	var zero plog.Log
	if got, want := toldLog(&zero), toldLog(plog.New()); got != want {
		t.Error(got, want)
	}
	b := &book{&plog.Log{}, t}
	b.ends(1, 0, 1, true)
	b.errs(rec(1, 0, 2, 0, "a"), api.ErrNone)
	b = &book{&zero, t}
	b.learns(1, 0)
	b.lays(rec(1, 0, 1, 0, "a"), 0)
	b.ends(1, 0, 1, true)
	b.spansAre(span(1, 0, 1, 0, commits))
	b.stableIs(1)
}

// TestTheDocumentsExample: Learn(0, 0), Append, Append, End; Stable is 2.
func TestTheDocumentsExample(t *testing.T) {
	for _, commit := range []bool{true, false} {
		b := newBook(t)
		b.learns(0, 0)
		b.lays(rec(0, 0, 1, 0, "a"), 0)
		b.lays(rec(0, 0, 1, 1, "b"), 1)
		b.stableIs(0)
		b.ends(0, 0, 1, commit)
		b.stableIs(2)
	}
}

// TestNewIsEmpty, and each is one of its own.
func TestNewIsEmpty(t *testing.T) {
	one, other := newBook(t), newBook(t)
	empty := toldLog(other.Log)
	one.learns(1, 3)
	one.lays(rec(1, 3, 1, 0, "a"), 0)
	one.ends(1, 3, 1, true)
	if got := toldLog(other.Log); got != empty || other.Len() != 0 || other.Stable() != 0 {
		t.Error(got)
	}
	other.spansAre()
	other.unknown(0, 1, 2, 3, 4, 5, 6, 7)
}

// TestAFencedOneStaysFenced: whatever is called behind a greater epoch, no record of an elder one is taken (P0.3).
func TestAFencedOneStaysFenced(t *testing.T) {
	b := bookOf(t, 1, 1)
	b.lays(rec(1, 1, 1, 0, "a"), 0)
	b.learns(1, 2)
	elder := rec(1, 1, 1, 1, "b")
	b.errs(elder, api.ErrFenced)
	b.learns(1, 1)
	b.errs(elder, api.ErrFenced)
	b.ends(1, 1, 1, false)
	b.errs(elder, api.ErrFenced)
	b.lays(rec(1, 2, 1, 0, "c"), 1)
	b.errs(elder, api.ErrFenced)
	b.errs(rec(1, 1, 2, 1, "b"), api.ErrFenced)
	b.errs(rec(1, 0, 1, 0, "b"), api.ErrFenced)
}
