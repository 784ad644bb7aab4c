package plog_test

import (
	"testing"

	"seneschal/api"
)

// TestOrderOfErrorsOfAppend: each record has the error that is wanted and all or some of those that are named behind it (P11.1, W4).
func TestOrderOfErrorsOfAppend(t *testing.T) {
	b := bookOf(t, 5, 1)
	b.lays(rec(1, 5, 1, 0, "a"), 0)
	b.ends(1, 5, 1, true)
	b.lays(rec(1, 5, 2, 1, "b"), 1)
	b.learns(3, 0)
	for seq := range 126 {
		b.lays(rec(3, 0, 1, seq, ""), 2+seq)
	}
	long := string(make([]byte, 201))
	for _, x := range []struct {
		r    api.Record
		want api.Errno
		why  string
	}{
		{rec(2, 101, 1, 0, ""), api.ErrArg, "ahead of an unknown producer: Epoch"},
		{rec(2, 0, 0, 0, ""), api.ErrArg, "ahead of an unknown producer: Txn"},
		{rec(2, 0, 1, -1, ""), api.ErrArg, "ahead of an unknown producer: Seq"},
		{rec(2, 0, 1, 0, long), api.ErrArg, "ahead of an unknown producer: Value"},
		{rec(1, 4, 101, 0, ""), api.ErrArg, "ahead of an elder epoch: Txn"},
		{rec(1, 4, 1, 1<<20+1, ""), api.ErrArg, "ahead of an elder epoch: Seq"},
		{rec(1, 4, 1, 0, long), api.ErrArg, "ahead of an elder epoch: Value"},
		{rec(1, 6, 0, 0, ""), api.ErrArg, "ahead of a later epoch: Txn"},
		{rec(1, 5, 2, 2, long), api.ErrArg, "ahead of a full log: Value"},
		{rec(2, 0, 1, 7, ""), api.ErrNone, "ahead of a gap and a full log"},
		{rec(1, 4, 1, 7, ""), api.ErrFenced, "ahead of a gap, an ended one, a full log"},
		{rec(1, 4, 1, 0, "a"), api.ErrFenced, "ahead of what would be there"},
		{rec(1, 6, 1, 7, ""), api.ErrState, "a later epoch, ahead of a gap"},
		{rec(1, 6, 1, 0, "z"), api.ErrState, "a later epoch, ahead of what would be there otherwise"},
		{rec(1, 5, 1, 0, "z"), api.ErrArg, "there otherwise, ahead of an ended one and of a full log"},
		{rec(1, 5, 3, 1, "b"), api.ErrArg, "there otherwise, ahead of another open one"},
		{rec(1, 5, 1, 1, "b"), api.ErrArg, "there otherwise, ahead of an ended one"},
		{rec(1, 5, 1, 3, ""), api.ErrGap, "ahead of an ended one and a full log"},
		{rec(1, 5, 3, 3, ""), api.ErrGap, "ahead of another open one and a full log"},
		{rec(1, 5, 2, 3, ""), api.ErrGap, "ahead of a full log"},
		{rec(1, 5, 1, 2, ""), api.ErrState, "an ended one, ahead of a full log"},
		{rec(1, 5, 3, 2, ""), api.ErrState, "another open one, ahead of a full log"},
		{rec(1, 5, 2, 2, ""), api.ErrFull, "nothing else"},
	} {
		t.Log(x.why)
		b.errs(x.r, x.want)
	}
	b.has(rec(1, 5, 1, 0, "a"), 0)
	b.has(rec(1, 5, 2, 1, "b"), 1)
}

// TestOrderOfErrorsOfEnd: ErrArg ahead of ErrState (P11.2, W4); so each bound is one for itself.
func TestOrderOfErrorsOfEnd(t *testing.T) {
	b := newBook(t)
	b.ends(0, 0, 1, true)
	b.endErrs(0, 0, 1, false, api.ErrState)
	b.endErrs(8, 0, 1, false, api.ErrArg)
	b.endErrs(0, 101, 1, false, api.ErrArg)
	b.endErrs(0, 0, 0, false, api.ErrArg)
	b.endErrs(0, 0, 101, false, api.ErrArg)
}
