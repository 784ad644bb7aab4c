package coord_test

import (
	"testing"

	"seneschal/api"
)

var bothWays = []bool{true, false}

// TestEndOfTheOpenOne decides it, as it is asked, and none is open (P10.1).
func TestEndOfTheOpenOne(t *testing.T) {
	d := deskOf(t, "a", "b")
	d.runs(opAdd(0, 0, 1, 0), opAdd(1, 0, 1, 1))
	d.ok(opEnd(1, 0, 1, true), commits(1, 0, 1))
	d.shut(1)
	d.openIs(0, 1, 0)
	d.ok(opEnd(0, 0, 1, false), aborts(0, 0, 1))
	d.shut(0, 1)
	d.runs(opInit("b"), opAdd(1, 1, 1, 2), opAdd(1, 1, 1, 3))
	d.ok(opEnd(1, 1, 1, false), aborts(1, 1, 1))
	d.runs(opAdd(1, 1, 2, 2))
	d.ok(opEnd(1, 1, 2, true), commits(1, 1, 2))
	d.shut(0, 1)
}

// TestEndOfOneThatWasDecided: just so, it is OK; the other way, ErrState; what was decided later, or is open, changes nothing about that (P10.1).
func TestEndOfOneThatWasDecided(t *testing.T) {
	d := deskOf(t, "a")
	for txn := 1; txn <= 12; txn++ {
		d.runs(opAdd(0, 0, txn, 0))
		for elder := 1; elder < txn; elder++ {
			d.still(opEnd(0, 0, elder, elder%3 == 0), api.OK)
			d.still(opEnd(0, 0, elder, elder%3 != 0), api.ErrState)
		}
		d.ok(opEnd(0, 0, txn, txn%3 == 0), ended(0, 0, txn, txn%3 == 0))
		d.still(opEnd(0, 0, txn, txn%3 == 0), api.OK)
		d.still(opEnd(0, 0, txn, txn%3 != 0), api.ErrState)
	}
}

// TestEndOfOneThatATickDecided: it was aborted (P10.1).
func TestEndOfOneThatATickDecided(t *testing.T) {
	d := deskOf(t, "a")
	d.runs(opAdd(0, 0, 1, 0))
	d.runs(times(5, opTick())...)
	d.still(opEnd(0, 0, 1, false), api.OK)
	d.still(opEnd(0, 0, 1, true), api.ErrState)
	d.runs(opAdd(0, 0, 2, 0))
	d.still(opEnd(0, 0, 1, false), api.OK)
	d.still(opEnd(0, 0, 1, true), api.ErrState)
	d.ok(opEnd(0, 0, 2, true), commits(0, 0, 2))
}

// TestEndOfOneOfAnElderEpoch: ErrFenced with that epoch, ErrState with this one, however it was decided (P10.1).
func TestEndOfOneOfAnElderEpoch(t *testing.T) {
	d := deskOf(t, "a")
	d.runs(opAdd(0, 0, 1, 0), opEnd(0, 0, 1, true), opAdd(0, 0, 2, 0), opEnd(0, 0, 2, false), opAdd(0, 0, 3, 0))
	d.runs(opInit("a")) // decides the third
	for txn := 1; txn <= 3; txn++ {
		for _, commit := range bothWays {
			d.still(opEnd(0, 0, txn, commit), api.ErrFenced)
			d.still(opEnd(0, 1, txn, commit), api.ErrState)
		}
	}
	d.runs(opAdd(0, 1, 1, 0))
	d.ok(opEnd(0, 1, 1, false), aborts(0, 1, 1)) // the other way than in the elder epoch
	d.still(opEnd(0, 1, 1, true), api.ErrState)
	d.still(opEnd(0, 1, 2, false), api.ErrState)
	d.still(opEnd(0, 1, 3, false), api.ErrState)
}

// TestEndOfOneThatNeverWas: ErrState, both ways, with one open and with none (P10.1).
func TestEndOfOneThatNeverWas(t *testing.T) {
	d := deskOf(t, "a", "b")
	never := func(numbers ...int) {
		t.Helper()
		for _, txn := range numbers {
			for _, commit := range bothWays {
				d.still(opEnd(0, 0, txn, commit), api.ErrState)
			}
		}
	}
	never(0, 1, 2, 99, 100)
	d.runs(opAdd(0, 0, 1, 0))
	never(0, 2, 3, 99, 100)
	d.runs(opEnd(0, 0, 1, true), opAdd(1, 0, 1, 0), opEnd(1, 0, 1, true), opAdd(1, 0, 2, 0), opEnd(1, 0, 2, true))
	never(0, 2, 3, 99, 100) // the second is another producer's
	d.runs(opAdd(0, 0, 2, 0))
	never(0, 3, 100)
}
