package plog_test

import (
	"strings"
	"testing"

	"seneschal/api"
)

// TestARecordAgain: its offset, whatever came between (P11.1).
func TestARecordAgain(t *testing.T) {
	b := bookOf(t, 0, 1, 2)
	first := rec(1, 0, 1, 0, "a")
	b.lays(first, 0)
	b.has(first, 0)
	b.lays(rec(2, 0, 1, 0, "x"), 1)
	b.has(first, 0)
	b.lays(rec(1, 0, 1, 1, "b"), 2)
	b.has(first, 0)
	b.has(rec(2, 0, 1, 0, "x"), 1)
	b.has(rec(1, 0, 1, 1, "b"), 2)
	b.lays(rec(2, 0, 1, 1, "y"), 3)
	b.ends(2, 0, 1, false)
	b.lays(rec(2, 0, 2, 2, "a"), 4)
	b.lays(rec(1, 0, 1, 2, "a"), 5)
	for i, r := range []api.Record{first, rec(2, 0, 1, 0, "x"), rec(1, 0, 1, 1, "b"), rec(2, 0, 1, 1, "y"), rec(2, 0, 2, 2, "a"), rec(1, 0, 1, 2, "a")} {
		b.has(r, i)
	}
}

// TestARecordAgainWhenItsTransactionIsEnded: its offset, also while another is open (P11.1).
func TestARecordAgainWhenItsTransactionIsEnded(t *testing.T) {
	for _, commit := range []bool{true, false} {
		b := bookOf(t, 0, 1)
		b.lays(rec(1, 0, 1, 0, "a"), 0)
		b.lays(rec(1, 0, 1, 1, "b"), 1)
		b.ends(1, 0, 1, commit)
		b.has(rec(1, 0, 1, 0, "a"), 0)
		b.has(rec(1, 0, 1, 1, "b"), 1)
		b.lays(rec(1, 0, 2, 2, "c"), 2)
		b.has(rec(1, 0, 1, 0, "a"), 0)
		b.has(rec(1, 0, 1, 1, "b"), 1)
		b.errs(rec(1, 0, 1, 3, "d"), api.ErrState)
	}
}

// TestARecordAgainWhenTheLogIsFull: its offset (P11.1).
func TestARecordAgainWhenTheLogIsFull(t *testing.T) {
	b := full(t)
	for i := range 128 {
		b.has(rec(1, 0, 1, i, ""), i)
	}
	b.errs(rec(1, 0, 1, 5, "a"), api.ErrArg)
	b.ends(1, 0, 1, true)
	b.has(rec(1, 0, 1, 0, ""), 0)
	b.has(rec(1, 0, 1, 127, ""), 127)
}

// TestAnotherRecordAtThatSeq: ErrArg, is its Txn another or its Value (P11.1).
func TestAnotherRecordAtThatSeq(t *testing.T) {
	b := bookOf(t, 0, 1)
	b.lays(rec(1, 0, 5, 0, "ab"), 0)
	b.lays(rec(1, 0, 5, 1, ""), 1)
	b.lays(rec(1, 0, 5, 2, strings.Repeat("v", 200)), 2)
	for _, value := range []string{"", "a", "b", "aB", "abc", "ba", "ab\x00", strings.Repeat("v", 200)} {
		b.errs(rec(1, 0, 5, 0, value), api.ErrArg)
	}
	for _, value := range []string{"a", "\x00", "ab"} {
		b.errs(rec(1, 0, 5, 1, value), api.ErrArg)
	}
	for _, value := range []string{"", strings.Repeat("v", 199), strings.Repeat("v", 199) + "w", "w" + strings.Repeat("v", 199)} {
		b.errs(rec(1, 0, 5, 2, value), api.ErrArg)
	}
	for _, txn := range []int{1, 4, 6, 100} {
		b.errs(rec(1, 0, txn, 0, "ab"), api.ErrArg)
		b.errs(rec(1, 0, txn, 1, ""), api.ErrArg)
		b.errs(rec(1, 0, txn, 2, "z"), api.ErrArg)
	}
	b.has(rec(1, 0, 5, 0, "ab"), 0)
}

// TestAnEmptyValueAgain: a nil one and one of no bytes are the same (P11.1, W5).
func TestAnEmptyValueAgain(t *testing.T) {
	none, empty := rec(1, 0, 1, 0, ""), rec(1, 0, 1, 0, "")
	none.Value, empty.Value = nil, []byte{}
	for _, pair := range [][2]api.Record{{none, none}, {none, empty}, {empty, none}, {empty, empty}} {
		b := bookOf(t, 0, 1)
		b.lays(pair[0], 0)
		b.has(pair[1], 0)
	}
}

// TestAnElderEpochsRecordAgain: ErrFenced, though it is there (P11.1).
func TestAnElderEpochsRecordAgain(t *testing.T) {
	b := bookOf(t, 0, 1)
	b.lays(rec(1, 0, 1, 0, "a"), 0)
	b.lays(rec(1, 0, 1, 1, "b"), 1)
	b.learns(1, 1)
	b.errs(rec(1, 0, 1, 0, "a"), api.ErrFenced)
	b.errs(rec(1, 0, 1, 1, "b"), api.ErrFenced)
	b.errs(rec(1, 0, 1, 2, "c"), api.ErrFenced)
	b.errs(rec(1, 1, 1, 1, "b"), api.ErrGap) // what the elder epoch had does not count
	b.lays(rec(1, 1, 2, 0, "z"), 2)
	b.errs(rec(1, 0, 1, 0, "a"), api.ErrFenced)
	b.errs(rec(1, 1, 1, 0, "a"), api.ErrArg)
	b.has(rec(1, 1, 2, 0, "z"), 2)
}

// TestTheSameSeqOfAnotherProducer is another record (P11.1).
func TestTheSameSeqOfAnotherProducer(t *testing.T) {
	b := bookOf(t, 0, 1, 2)
	b.lays(rec(1, 0, 1, 0, "a"), 0)
	b.lays(rec(2, 0, 1, 0, "a"), 1)
	b.has(rec(1, 0, 1, 0, "a"), 0)
	b.has(rec(2, 0, 1, 0, "a"), 1)
	b.errs(rec(2, 0, 1, 0, "b"), api.ErrArg)
}
