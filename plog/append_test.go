package plog_test

import (
	"strings"
	"testing"

	"seneschal/api"
)

// TestAppendAtTheBounds: all that may be is taken (P11.1).
func TestAppendAtTheBounds(t *testing.T) {
	for _, p := range []int{0, 1, 6, 7} {
		for _, epoch := range []int{0, 1, 99, 100} {
			for _, txn := range []int{1, 2, 99, 100} {
				for _, size := range []int{0, 1, 199, 200} {
					b := bookOf(t, epoch, p)
					b.lays(rec(p, epoch, txn, 0, strings.Repeat("v", size)), 0)
					b.spansAre(span(p, epoch, txn, 0, isOpen))
				}
			}
		}
	}
}

// TestAppendOutside: ErrArg of each field that may not be, be the rest of it as it should (P11.1).
func TestAppendOutside(t *testing.T) {
	b := bookOf(t, 0, 0, 1, 2, 3, 4, 5, 6, 7)
	b.lays(rec(1, 0, 1, 0, "a"), 0)
	good := rec(1, 0, 1, 1, "b")
	for _, p := range outside(0, 7) {
		r := good
		r.Producer = p
		b.errs(r, api.ErrArg)
	}
	for _, epoch := range outside(0, 100) {
		r := good
		r.Epoch = epoch
		b.errs(r, api.ErrArg)
	}
	for _, txn := range append(outside(1, 100), 0, -1) {
		r := good
		r.Txn = txn
		b.errs(r, api.ErrArg)
	}
	for _, seq := range outside(0, 1<<20) {
		r := good
		r.Seq = seq
		b.errs(r, api.ErrArg)
	}
	for _, size := range []int{201, 202, 400, 1 << 16} {
		r := good
		r.Value = make([]byte, size)
		b.errs(r, api.ErrArg)
	}
	b.lays(good, 1)
}

// TestTheGreatestSeqMayBe: it is a gap, no wrong argument (P11.1).
func TestTheGreatestSeqMayBe(t *testing.T) {
	b := bookOf(t, 0, 1)
	b.errs(rec(1, 0, 1, 1<<20, ""), api.ErrGap)
	b.errs(rec(1, 0, 1, 1<<20-1, ""), api.ErrGap)
	b.errs(rec(1, 0, 1, 1<<20+1, ""), api.ErrArg)
}

// TestAppendOfOneWhoIsNotKnown: ErrNone (P11.1).
func TestAppendOfOneWhoIsNotKnown(t *testing.T) {
	b := bookOf(t, 0, 3)
	for p := range 8 {
		for _, epoch := range []int{0, 1, 100} {
			if p != 3 {
				b.errs(rec(p, epoch, 1, 0, "a"), api.ErrNone)
			}
		}
	}
	b.learns(4, 0)
	b.lays(rec(4, 0, 1, 0, "a"), 0)
}

// TestAppendOfAnotherEpoch: ErrFenced below what is known, ErrState above it (P11.1).
func TestAppendOfAnotherEpoch(t *testing.T) {
	for known := range 101 {
		b := bookOf(t, known, 2)
		for epoch := range 101 {
			switch r := rec(2, epoch, 1, 0, "a"); {
			case epoch < known:
				b.errs(r, api.ErrFenced)
			case epoch > known:
				b.errs(r, api.ErrState)
			}
		}
		b.lays(rec(2, known, 1, 0, "a"), 0)
	}
}

// TestSeqs: 0 first, then each behind the last one (P11.1).
func TestSeqs(t *testing.T) {
	b := bookOf(t, 0, 1)
	for _, seq := range []int{1, 2, 127, 128, 1 << 20} {
		b.errs(rec(1, 0, 1, seq, "a"), api.ErrGap)
	}
	for seq := range 20 {
		b.errs(rec(1, 0, 1, seq+1, "a"), api.ErrGap)
		b.errs(rec(1, 0, 1, seq+2, "a"), api.ErrGap)
		b.lays(rec(1, 0, 1, seq, "a"), seq)
	}
}

// TestSeqsGoOnThroughTransactions: they are counted by producer and epoch, not by transaction (P11.1).
func TestSeqsGoOnThroughTransactions(t *testing.T) {
	b := bookOf(t, 0, 1)
	b.lays(rec(1, 0, 1, 0, "a"), 0)
	b.ends(1, 0, 1, true)
	b.errs(rec(1, 0, 2, 2, "b"), api.ErrGap)
	b.errs(rec(1, 0, 2, 0, "b"), api.ErrArg)
	b.lays(rec(1, 0, 2, 1, "b"), 1)
	b.ends(1, 0, 2, false)
	b.lays(rec(1, 0, 9, 2, "c"), 2)
}

// TestSeqsOfSeveralProducers: each has its own (P11.1).
func TestSeqsOfSeveralProducers(t *testing.T) {
	b := bookOf(t, 0, 0, 1, 2, 3, 4, 5, 6, 7)
	offset := 0
	for seq := range 4 {
		for p := range 8 {
			b.errs(rec(p, 0, p+1, seq+1, "a"), api.ErrGap)
			b.lays(rec(p, 0, p+1, seq, "a"), offset)
			offset++
		}
	}
}

// TestSeqsOfANewEpoch: 0 first again; so is it where epochs are left out (P11.1).
func TestSeqsOfANewEpoch(t *testing.T) {
	b := bookOf(t, 0, 1, 2)
	b.lays(rec(1, 0, 1, 0, "a"), 0)
	b.lays(rec(2, 0, 1, 0, "a"), 1)
	b.lays(rec(1, 0, 1, 1, "b"), 2)
	for i, epoch := range []int{1, 2, 50, 100} {
		b.learns(1, epoch)
		b.errs(rec(1, epoch, 1, 2, "c"), api.ErrGap)
		b.errs(rec(1, epoch, 1, 1, "b"), api.ErrGap)
		b.lays(rec(1, epoch, 1, 0, "a"), 3+2*i)
		b.lays(rec(1, epoch, 1, 1, "b"), 4+2*i)
	}
	b.lays(rec(2, 0, 1, 1, "b"), 11)
}

// TestLearningTheSameEpochIsNoNewOne: the Seqs go on (P11.1).
func TestLearningTheSameEpochIsNoNewOne(t *testing.T) {
	b := bookOf(t, 5, 1)
	b.lays(rec(1, 5, 1, 0, "a"), 0)
	for _, epoch := range []int{5, 4, 0} {
		b.learns(1, epoch)
		b.errs(rec(1, 5, 1, 0, "b"), api.ErrArg)
		b.has(rec(1, 5, 1, 0, "a"), 0)
	}
	b.lays(rec(1, 5, 1, 1, "b"), 1)
}

// TestAppendToWhatIsEnded: ErrState, had it records or not, was it committed or aborted (P11.1, P11.3).
func TestAppendToWhatIsEnded(t *testing.T) {
	for _, commit := range []bool{true, false} {
		b := bookOf(t, 0, 1)
		b.ends(1, 0, 1, commit)
		b.errs(rec(1, 0, 1, 0, "a"), api.ErrState)
		b.lays(rec(1, 0, 2, 0, "a"), 0)
		b.lays(rec(1, 0, 2, 1, "b"), 1)
		b.ends(1, 0, 2, commit)
		b.errs(rec(1, 0, 2, 2, "c"), api.ErrState)
		b.errs(rec(1, 0, 1, 2, "c"), api.ErrState)
		b.lays(rec(1, 0, 3, 2, "c"), 2)
		b.errs(rec(1, 0, 2, 3, "d"), api.ErrState)
		b.ends(1, 0, 3, !commit)
		for txn := 1; txn <= 3; txn++ {
			b.errs(rec(1, 0, txn, 3, "d"), api.ErrState)
		}
	}
}

// TestAppendWhileAnotherIsOpen: ErrState, be the other of a greater number or a lesser one (P11.1).
func TestAppendWhileAnotherIsOpen(t *testing.T) {
	b := bookOf(t, 0, 1)
	b.lays(rec(1, 0, 50, 0, "a"), 0)
	for _, txn := range []int{1, 49, 51, 100} {
		b.errs(rec(1, 0, txn, 1, "b"), api.ErrState)
	}
	b.lays(rec(1, 0, 50, 1, "b"), 1)
	b.errs(rec(1, 0, 51, 2, "c"), api.ErrState)
	b.ends(1, 0, 51, true)
	b.errs(rec(1, 0, 52, 2, "c"), api.ErrState)
	b.ends(1, 0, 50, true)
	b.lays(rec(1, 0, 52, 2, "c"), 2)
	b.errs(rec(1, 0, 1, 3, "d"), api.ErrState)
	b.ends(1, 0, 52, false)
	b.lays(rec(1, 0, 1, 3, "d"), 3)
}

// TestTheSameTxnElsewhere: it is another transaction in another epoch, and of another producer (P11.1).
func TestTheSameTxnElsewhere(t *testing.T) {
	b := bookOf(t, 0, 1, 2, 3)
	b.lays(rec(1, 0, 1, 0, "a"), 0)
	b.lays(rec(2, 0, 1, 0, "a"), 1)
	b.lays(rec(3, 0, 2, 0, "a"), 2)
	b.ends(1, 0, 1, true)
	b.lays(rec(2, 0, 1, 1, "b"), 3)
	b.errs(rec(1, 0, 1, 1, "b"), api.ErrState)
	b.learns(1, 1)
	b.lays(rec(1, 1, 1, 0, "b"), 4)
	b.learns(2, 1)
	b.lays(rec(2, 1, 2, 0, "c"), 5) // though 1 of epoch 0 is open
	b.spansAre(span(1, 0, 1, 0, commits), span(2, 0, 1, 1, isOpen), span(3, 0, 2, 2, isOpen), span(1, 1, 1, 4, isOpen), span(2, 1, 2, 5, isOpen))
}

// TestEndedAheadOfItsEpoch: a transaction of a later epoch, or of one who is not known, may be ended already; it takes no record then (P11.1, P11.3).
func TestEndedAheadOfItsEpoch(t *testing.T) {
	b := bookOf(t, 0, 1)
	b.ends(1, 2, 1, true)
	b.ends(2, 0, 1, false)
	b.lays(rec(1, 0, 1, 0, "a"), 0)
	b.learns(1, 2)
	b.learns(2, 0)
	b.errs(rec(1, 2, 1, 0, "a"), api.ErrState)
	b.errs(rec(2, 0, 1, 0, "a"), api.ErrState)
	b.lays(rec(1, 2, 2, 0, "a"), 1)
	b.lays(rec(2, 0, 2, 0, "a"), 2)
}

// TestAsManyAsMayBe: MaxRecords are taken, and no more (P11.1).
func TestAsManyAsMayBe(t *testing.T) {
	b := full(t)
	b.errs(rec(1, 0, 1, 128, ""), api.ErrFull)
	b.errs(rec(1, 0, 1, 128, "a"), api.ErrFull)
	b.ends(1, 0, 1, true)
	b.errs(rec(1, 0, 2, 128, ""), api.ErrFull)
	b.learns(1, 1)
	b.errs(rec(1, 1, 1, 0, ""), api.ErrFull)
	b.learns(2, 0)
	b.errs(rec(2, 0, 1, 0, ""), api.ErrFull)
	if b.Len() != 128 {
		t.Error(b.Len())
	}
}

// TestAsManyAsMayBeOfSeveral: all producers' and epochs' records count (P11.1).
func TestAsManyAsMayBeOfSeveral(t *testing.T) {
	b := newBook(t)
	for i := range 128 {
		p, epoch := i%8, i/8
		b.learns(p, epoch)
		b.lays(rec(p, epoch, 1, 0, "a"), i)
	}
	for p := range 8 {
		b.errs(rec(p, 15, 1, 1, "b"), api.ErrFull)
		b.learns(p, 16)
		b.errs(rec(p, 16, 1, 0, "a"), api.ErrFull)
	}
	if n := len(b.Spans()); n != 128 { // a record that is not taken begins no transaction
		t.Error(n)
	}
}
