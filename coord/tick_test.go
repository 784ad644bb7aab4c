package coord_test

import (
	"testing"

	"seneschal/api"
)

// TestATickIsOneMore, and answers nothing else (P10.1, P10.2).
func TestATickIsOneMore(t *testing.T) {
	d := deskOf(t, "a")
	for tick := range 300 {
		if d.Now() != tick {
			t.Fatal(d.Now(), tick)
		}
		d.ok(opTick())
	}
	d.runs(opInit("b"), opAdd(0, 0, 1, 0), opEnd(0, 0, 1, true))
	d.still(opInit("c"+"cccccccc"), api.ErrState)
	if d.Now() != 300 {
		t.Error("no tick, but now it is", d.Now())
	}
}

// TestTimeout ticks ago is long enough, one less is not, whatever the tick was at which it began (P10.1).
func TestTimeout(t *testing.T) {
	for began := range 12 {
		d := deskOf(t, "a", "b")
		d.runs(times(began, opTick())...)
		d.runs(opAdd(1, 0, 1, 0))
		for range 4 {
			d.ok(opTick())
			d.openIs(1, 1, 0)
		}
		d.ok(opTick(), aborts(1, 0, 1))
		d.shut(0, 1)
		for range 12 {
			d.ok(opTick())
		}
	}
}

// TestItBeganWithItsFirstPart: those behind it, new and old, do not let it stay open for longer (P10.1).
func TestItBeganWithItsFirstPart(t *testing.T) {
	d := deskOf(t, "a")
	d.runs(opTick(), opAdd(0, 0, 1, 0))
	for part := range 4 {
		d.ok(opTick())
		d.ok(opAdd(0, 0, 1, part))
	}
	d.ok(opTick(), aborts(0, 0, 1))
}

// TestTheNextOneBeginsAnew: it is open for Timeout ticks of its own (P10.1).
func TestTheNextOneBeginsAnew(t *testing.T) {
	d := deskOf(t, "a")
	d.runs(opAdd(0, 0, 1, 0))
	d.runs(times(3, opTick())...)
	d.runs(opEnd(0, 0, 1, true), opAdd(0, 0, 2, 0))
	d.runs(times(3, opTick())...)
	d.openIs(0, 2, 0)
	d.runs(opInit("a"), opAdd(0, 1, 1, 1))
	for range 4 {
		d.ok(opTick())
	}
	d.ok(opTick(), aborts(0, 1, 1))
	d.runs(opAdd(0, 1, 2, 1))
	for range 4 {
		d.ok(opTick())
	}
	d.ok(opTick(), aborts(0, 1, 2))
}

// TestATickAbortsAllThatBeganTogether, by rising producers, however they came to begin (P10.1).
func TestATickAbortsAllThatBeganTogether(t *testing.T) {
	d := deskOf(t, names(8)...)
	d.runs(opInit("q"), opAdd(7, 0, 1, 0), opAdd(2, 0, 1, 0), opAdd(6, 1, 1, 0), opAdd(6, 1, 1, 2), opEnd(6, 1, 1, true), opAdd(0, 0, 1, 0), opAdd(6, 1, 2, 0), opAdd(3, 0, 1, 3), opEnd(3, 0, 1, true))
	d.runs(times(4, opTick())...)
	d.ok(opTick(), aborts(0, 0, 1), aborts(2, 0, 1), aborts(6, 1, 2), aborts(7, 0, 1))
	d.shut(0, 1, 2, 3, 4, 5, 6, 7)
	d.ok(opTick())
}

// TestATickAbortsNoneThatBeganLater: each in its own turn, once (P10.1).
func TestATickAbortsNoneThatBeganLater(t *testing.T) {
	d := deskOf(t, names(8)...)
	d.runs(opAdd(4, 0, 1, 0), opTick(), opAdd(5, 0, 1, 0), opAdd(1, 0, 1, 0), opTick(), opTick(), opAdd(0, 0, 1, 0), opTick())
	d.ok(opTick(), aborts(4, 0, 1))
	d.ok(opTick(), aborts(1, 0, 1), aborts(5, 0, 1))
	d.openIs(0, 1, 0)
	d.runs(opAdd(1, 0, 2, 2))
	d.ok(opTick())
	d.ok(opTick(), aborts(0, 0, 1))
	d.ok(opTick())
	d.ok(opTick())
	d.ok(opTick(), aborts(1, 0, 2))
	d.ok(opTick())
}

// TestATickAbortsNothingThatWasDecided (P10.1, P10.3).
func TestATickAbortsNothingThatWasDecided(t *testing.T) {
	d := deskOf(t, "a", "b", "c")
	d.runs(opAdd(0, 0, 1, 0), opAdd(1, 0, 1, 0), opAdd(2, 0, 1, 0), opEnd(0, 0, 1, true), opEnd(1, 0, 1, false), opInit("c"))
	for range 12 {
		d.ok(opTick())
	}
}

// TestATickAfterMaxTxn: the last one there is may be aborted, too.
func TestATickAfterMaxTxn(t *testing.T) {
	d := deskOf(t, "a")
	for txn := 1; txn < 100; txn++ {
		d.runs(opAdd(0, 0, txn, 0), opEnd(0, 0, txn, true))
	}
	d.runs(opAdd(0, 0, 100, 0))
	d.runs(times(4, opTick())...)
	d.ok(opTick(), aborts(0, 0, 100))
	d.still(opAdd(0, 0, 100, 0), api.ErrUsed)
	d.still(opEnd(0, 0, 100, false), api.OK)
}
