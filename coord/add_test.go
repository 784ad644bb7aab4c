package coord_test

import (
	"testing"

	"seneschal/api"
)

// TestAddAndEndOfNoProducer: ErrNone, from the last one on, whatever else there is (P10.1).
func TestAddAndEndOfNoProducer(t *testing.T) {
	d := newDesk(t)
	for count := range 9 {
		for p := count; p < 8; p++ {
			for _, epoch := range []int{0, 1, 100} {
				d.still(opAdd(p, epoch, 1, 0), api.ErrNone)
				d.still(opAdd(p, epoch, 0, 3), api.ErrNone)
				d.still(opEnd(p, epoch, 1, true), api.ErrNone)
				d.still(opEnd(p, epoch, 0, false), api.ErrNone)
			}
		}
		if count < 8 {
			d.runs(opInit(names(8)[count]), opAdd(count, 0, 1, 0))
		}
	}
}

// TestAddAndEndOfAnotherEpoch: ErrFenced, of an elder one and of a later one, whatever the transaction is (P10.1).
func TestAddAndEndOfAnotherEpoch(t *testing.T) {
	d := deskOf(t, "a", "b", "a", "a")
	d.runs(opAdd(0, 2, 1, 0), opEnd(0, 2, 1, true), opAdd(0, 2, 2, 0))
	for _, epoch := range []int{0, 1, 3, 100} {
		for _, txn := range []int{0, 1, 2, 3, 100} {
			d.still(opAdd(0, epoch, txn, 1), api.ErrFenced)
			d.still(opEnd(0, epoch, txn, true), api.ErrFenced)
			d.still(opEnd(0, epoch, txn, false), api.ErrFenced)
		}
	}
	d.still(opAdd(1, 2, 1, 0), api.ErrFenced) // the epoch of another one
	d.openIs(0, 2, 0)
}

// TestTheFirstAddOpens a transaction; those behind it give it more parts (P10.1).
func TestTheFirstAddOpens(t *testing.T) {
	d := deskOf(t, "a", "b")
	d.ok(opAdd(1, 0, 1, 2))
	d.openIs(1, 1, 2)
	d.shut(0)
	d.ok(opAdd(1, 0, 1, 0))
	d.openIs(1, 1, 0, 2)
	d.still(opAdd(1, 0, 1, 2), api.OK)
	d.still(opAdd(1, 0, 1, 0), api.OK)
	d.ok(opAdd(1, 0, 1, 3))
	d.openIs(1, 1, 0, 2, 3)
	d.ok(opAdd(1, 0, 1, 1))
	d.openIs(1, 1, 0, 1, 2, 3)
	d.shut(0)
}

// TestPartsAreOfOneTransaction: the next one has none of them (P10.1).
func TestPartsAreOfOneTransaction(t *testing.T) {
	d := deskOf(t, "a")
	d.runs(opAdd(0, 0, 1, 0), opAdd(0, 0, 1, 1), opEnd(0, 0, 1, true), opAdd(0, 0, 2, 3))
	d.openIs(0, 2, 3)
	d.runs(times(5, opTick())...)
	d.runs(opAdd(0, 0, 3, 1))
	d.openIs(0, 3, 1)
	d.runs(opInit("a"), opAdd(0, 1, 1, 2))
	d.openIs(0, 1, 2)
}

// TestAddOfAnotherOneThanTheOpenOne: ErrState (P10.1).
func TestAddOfAnotherOneThanTheOpenOne(t *testing.T) {
	d := deskOf(t, "a", "b")
	d.runs(opAdd(0, 0, 1, 0), opEnd(0, 0, 1, true), opAdd(0, 0, 2, 1))
	for _, txn := range []int{0, 1, 3, 4, 100} {
		d.still(opAdd(0, 0, txn, 2), api.ErrState)
	}
	d.runs(opAdd(1, 0, 1, 0))
	d.still(opAdd(1, 0, 2, 1), api.ErrState)
	d.still(opAdd(1, 0, 0, 0), api.ErrState)
}

// TestAddWhereNoneIsOpen: of one more than the last one alone, however that one ended (P10.1).
func TestAddWhereNoneIsOpen(t *testing.T) {
	d := deskOf(t, "a")
	for last := range 6 {
		for _, txn := range []int{0, last - 1, last, last + 2, last + 3, 100} {
			if txn >= 0 {
				d.still(opAdd(0, 0, txn, 0), api.ErrState)
			}
		}
		d.shut(0)
		d.ok(opAdd(0, 0, last+1, last%4))
		d.openIs(0, last+1, last%4)
		if last%3 < 2 {
			d.runs(opEnd(0, 0, last+1, last%3 == 0))
		} else {
			d.runs(times(5, opTick())...)
		}
	}
}

// TestMaxTxn is the last one of an epoch: it may have parts while it is open, behind it there is none (P10.1).
func TestMaxTxn(t *testing.T) {
	d := deskOf(t, "a", "b")
	for txn := 1; txn < 100; txn++ {
		d.runs(opAdd(0, 0, txn, 0), opEnd(0, 0, txn, txn%2 == 0))
	}
	d.still(opAdd(0, 0, 99, 0), api.ErrState)
	d.still(opAdd(0, 0, 1, 0), api.ErrState)
	d.ok(opAdd(0, 0, 100, 0))
	d.still(opAdd(0, 0, 99, 0), api.ErrState)
	d.still(opAdd(0, 0, 0, 0), api.ErrState)
	d.ok(opAdd(0, 0, 100, 3))
	d.openIs(0, 100, 0, 3)
	d.ok(opEnd(0, 0, 100, true), commits(0, 0, 100))
	for txn := 0; txn <= 100; txn++ {
		d.still(opAdd(0, 0, txn, 0), api.ErrUsed)
	}
	d.still(opEnd(0, 0, 100, true), api.OK)
	d.still(opEnd(0, 0, 99, false), api.OK)
	d.still(opEnd(0, 0, 99, true), api.ErrState)
	d.ok(opAdd(1, 0, 1, 0))
}
