package coord_test

import (
	"testing"

	"seneschal/api"
)

// TestANewName: its number is how many came ahead, its epoch 0, and that is marked (P10.1).
func TestANewName(t *testing.T) {
	d := newDesk(t)
	for i, name := range names(8) {
		d.does(opInit(name), api.Reply{Producer: i}, inits(i, 0))
		d.epochIs(i, 0)
		d.shut(i)
	}
}

// TestANameIsTheWholeOfIt: one that begins or ends as another one is another one (P10.1).
func TestANameIsTheWholeOfIt(t *testing.T) {
	d := deskOf(t, "ab")
	for i, name := range []string{"a", "b", "abc", "ba", "abababab", "aa"} {
		d.does(opInit(name), api.Reply{Producer: i + 1}, inits(i+1, 0))
	}
	d.does(opInit("ab"), api.Reply{Epoch: 1}, inits(0, 1))
	d.does(opInit("abababab"), api.Reply{Producer: 5, Epoch: 1}, inits(5, 1))
}

// TestMaxProducers: one less has room for a new name, MaxProducers have none, but those that are there go on (P10.1).
func TestMaxProducers(t *testing.T) {
	d := deskOf(t, names(7)...)
	d.does(opInit(names(8)[7]), api.Reply{Producer: 7}, inits(7, 0))
	for _, name := range []string{"b", "zz", "c"} {
		d.still(opInit(name), api.ErrFull)
	}
	for i, name := range names(8) {
		d.does(opInit(name), api.Reply{Producer: i, Epoch: 1}, inits(i, 1))
		d.still(opInit("b"), api.ErrFull)
	}
}

// TestANewEpoch is one more than the last one, of this producer alone (P10.1).
func TestANewEpoch(t *testing.T) {
	d := deskOf(t, "a", "b", "c")
	for epoch := 1; epoch <= 3; epoch++ {
		d.does(opInit("b"), api.Reply{Producer: 1, Epoch: epoch}, inits(1, epoch))
		d.epochIs(0, 0)
		d.epochIs(1, epoch)
		d.epochIs(2, 0)
	}
	d.does(opInit("c"), api.Reply{Producer: 2, Epoch: 1}, inits(2, 1))
}

// TestANewEpochDecidesWhatIsOpen, with the elder epoch, and ahead of its own mark (P10.1).
func TestANewEpochDecidesWhatIsOpen(t *testing.T) {
	d := deskOf(t, "a", "b")
	d.runs(opAdd(0, 0, 1, 1), opAdd(1, 0, 1, 3))
	d.does(opInit("b"), api.Reply{Producer: 1, Epoch: 1}, aborts(1, 0, 1), inits(1, 1))
	d.shut(1)
	d.openIs(0, 1, 1)
	d.runs(opAdd(1, 1, 1, 0), opEnd(1, 1, 1, true), opAdd(1, 1, 2, 2))
	d.does(opInit("b"), api.Reply{Producer: 1, Epoch: 2}, aborts(1, 1, 2), inits(1, 2))
	d.shut(1)
	d.openIs(0, 1, 1)
}

// TestANewEpochWhereNothingIsOpen: only it is marked, whatever was decided, and how (P10.1).
func TestANewEpochWhereNothingIsOpen(t *testing.T) {
	d := deskOf(t, "a")
	d.does(opInit("a"), api.Reply{Epoch: 1}, inits(0, 1))
	d.runs(opAdd(0, 1, 1, 0), opEnd(0, 1, 1, true))
	d.does(opInit("a"), api.Reply{Epoch: 2}, inits(0, 2))
	d.runs(opAdd(0, 2, 1, 0), opEnd(0, 2, 1, false))
	d.does(opInit("a"), api.Reply{Epoch: 3}, inits(0, 3))
	d.runs(opAdd(0, 3, 1, 0))
	d.runs(times(5, opTick())...)
	d.does(opInit("a"), api.Reply{Epoch: 4}, inits(0, 4))
}

// TestTransactionsBeginAnewInANewEpoch: the last one is 0 again, whatever it was (P10.1).
func TestTransactionsBeginAnewInANewEpoch(t *testing.T) {
	d := deskOf(t, "a")
	for epoch := range 4 {
		for txn := 1; txn <= epoch+1; txn++ {
			d.runs(opAdd(0, epoch, txn, 0), opEnd(0, epoch, txn, true))
		}
		if epoch%2 == 1 {
			d.runs(opAdd(0, epoch, epoch+2, 0))
		}
		d.runs(opInit("a"))
		for _, txn := range []int{0, 2, epoch, epoch + 2, epoch + 3} {
			if txn != 1 {
				d.still(opAdd(0, epoch+1, txn, 0), api.ErrState)
			}
		}
		d.still(opEnd(0, epoch+1, 1, true), api.ErrState) // so it was decided in the elder epoch
	}
	for txn := 1; txn <= 100; txn++ {
		d.runs(opAdd(0, 4, txn, 0), opEnd(0, 4, txn, true))
	}
	d.still(opAdd(0, 4, 1, 0), api.ErrUsed)
	d.runs(opInit("a"), opAdd(0, 5, 1, 2))
	d.openIs(0, 1, 2)
}

// TestMaxEpoch is the last one: behind it there is none, and what is open stays open (P10.1).
func TestMaxEpoch(t *testing.T) {
	d := deskOf(t, "a", "b")
	for epoch := 1; epoch < 100; epoch++ {
		d.does(opInit("b"), api.Reply{Producer: 1, Epoch: epoch}, inits(1, epoch))
	}
	d.runs(opAdd(1, 99, 1, 1))
	d.does(opInit("b"), api.Reply{Producer: 1, Epoch: 100}, aborts(1, 99, 1), inits(1, 100))
	d.still(opInit("b"), api.ErrUsed)
	d.runs(opAdd(1, 100, 1, 1), opAdd(1, 100, 1, 3))
	d.still(opInit("b"), api.ErrUsed)
	d.openIs(1, 1, 1, 3)
	d.ok(opEnd(1, 100, 1, true), commits(1, 100, 1))
	d.still(opInit("b"), api.ErrUsed)
	d.runs(opInit("a"))
	d.epochIs(0, 1)
	d.epochIs(1, 100)
}

// TestANameAtMaxEpochIsNotNew: ErrUsed, where there is no room for new ones, too (P10.1).
func TestANameAtMaxEpochIsNotNew(t *testing.T) {
	d := deskOf(t, names(8)...)
	d.runs(times(100, opInit("q"))...)
	d.still(opInit("q"), api.ErrUsed)
	d.still(opInit("b"), api.ErrFull)
}
