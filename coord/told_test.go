package coord_test

import (
	"crypto/sha256"
	"slices"
	"testing"

	"seneschal/api"
	"seneschal/coord"
)

// TestTheDocumentsExample: Init a, Add 0 0 1, End commit.
func TestTheDocumentsExample(t *testing.T) {
	d := newDesk(t)
	d.ok(opInit("a"), inits(0, 0))
	d.ok(opAdd(0, 0, 1, 0))
	d.ok(opEnd(0, 0, 1, true), commits(0, 0, 1))
	if got := d.Marks(); !slices.Equal(got, []api.Mark{inits(0, 0), commits(0, 0, 1)}) {
		t.Error(told(got))
	}
}

// TestMarksAreAllEverInOrder (P10.2).
func TestMarksAreAllEverInOrder(t *testing.T) {
	d := newDesk(t)
	if l := d.Marks(); len(l) != 0 {
		t.Error(told(l))
	}
	d.runs(opInit("b"), opInit("a"), opAdd(1, 0, 1, 0), opAdd(0, 0, 1, 0), opEnd(1, 0, 1, true), opInit("b"), opTick(), opAdd(1, 0, 2, 0), opAdd(0, 1, 1, 0), opEnd(1, 0, 2, false))
	d.runs(times(5, opTick())...)
	want := []api.Mark{inits(0, 0), inits(1, 0), commits(1, 0, 1), aborts(0, 0, 1), inits(0, 1), aborts(1, 0, 2), aborts(0, 1, 1)}
	if got := d.Marks(); !slices.Equal(got, want) {
		t.Error(told(got))
	}
}

// TestEpoch of each producer, and of numbers of none (P10.2).
func TestEpoch(t *testing.T) {
	d := newDesk(t)
	for count := range 9 {
		for _, p := range noProducers(count) {
			if epoch, ok := d.Epoch(p); epoch != 0 || ok {
				t.Errorf("%d producers, number %d: %d %v", count, p, epoch, ok)
			}
		}
		for p := range count {
			d.epochIs(p, p)
		}
		if count < 8 {
			d.runs(times(count+1, opInit(names(8)[count]))...)
		}
	}
	d.runs(opAdd(3, 3, 1, 0), opEnd(3, 3, 1, true), opTick())
	d.epochIs(3, 3)
}

// TestOpen of each producer, and of numbers of none, whatever others have open (P10.2).
func TestOpen(t *testing.T) {
	d := newDesk(t)
	for count := range 9 {
		d.shut(noProducers(count)...)
		for p := range count {
			if p%2 == 0 {
				d.shut(p)
			} else {
				d.openIs(p, 2, p/2)
			}
		}
		if count < 8 {
			d.runs(opInit(names(8)[count]), opAdd(count, 0, 1, 0), opEnd(count, 0, 1, true), opAdd(count, 0, 2, count/2))
			if count%2 == 0 {
				d.runs(opEnd(count, 0, 2, count%4 == 0))
			}
		}
	}
}

// TestPartsRise, in whatever order and how often they were added: each row of up to five of them (P10.2).
func TestPartsRise(t *testing.T) {
	for row := range 4 * 4 * 4 * 4 * 4 {
		for count := 1; count <= 5; count++ {
			d := deskOf(t, "a")
			var l []int
			for i := range count {
				part := row >> (2 * i) & 3
				d.runs(opAdd(0, 0, 1, part))
				l = append(l, part)
			}
			slices.Sort(l)
			d.openIs(0, 1, slices.Compact(l)...)
		}
	}
}

// TestOpenBehindAnEnding, of each kind: none is (P10.2).
func TestOpenBehindAnEnding(t *testing.T) {
	endings := [][]api.Op{
		{opEnd(0, 0, 1, true)},
		{opEnd(0, 0, 1, false)},
		{opInit("a")},
		times(5, opTick()),
	}
	for _, l := range endings {
		d := deskOf(t, "a")
		d.runs(opAdd(0, 0, 1, 0), opAdd(0, 0, 1, 3))
		d.openIs(0, 1, 0, 3)
		d.runs(l...)
		d.shut(0)
	}
}

// TestSum of no marks, of each row of a few, and of many (P10.2).
func TestSum(t *testing.T) {
	d := newDesk(t)
	if got := d.Sum(); got != sha256.Sum256(nil) {
		t.Errorf("%x", got)
	}
	d.runs(opTick())
	if got := d.Sum(); got != sha256.Sum256(nil) {
		t.Errorf("%x", got)
	}
	sums := map[api.Hash]int{}
	for epoch := range 101 {
		d.runs(opInit("a"), opInit("b"))
		for txn := 1; txn <= epoch%7; txn++ {
			d.runs(opAdd(1, epoch, txn, 0), opEnd(1, epoch, txn, (txn+epoch)%3 == 0))
		}
		got, marks := d.Sum(), d.Marks()
		if got != sumOf(marks) {
			t.Fatalf("%d marks: %x", len(marks), got)
		}
		sums[got]++
	}
	if len(sums) != 101 {
		t.Error(len(sums), "sums")
	}
}

// TestWhatEveryFaceTellsBehindWhatErred: nothing of it has changed (P10.1, W3).
func TestWhatEveryFaceTellsBehindWhatErred(t *testing.T) {
	d := deskOf(t, names(8)...)
	d.runs(opAdd(0, 0, 1, 0), opAdd(0, 0, 1, 2), opAdd(1, 0, 1, 1), opEnd(1, 0, 1, true), opTick())
	d.still(opInit("b"), api.ErrFull)
	d.still(opAdd(0, 1, 1, 1), api.ErrFenced)
	d.still(opAdd(0, 0, 2, 1), api.ErrState)
	d.still(opAdd(1, 0, 3, 1), api.ErrState)
	d.still(opEnd(1, 0, 1, false), api.ErrState)
	d.still(opEnd(0, 0, 2, false), api.ErrState)
	d.ok(opAdd(1, 0, 2, 3))
	d.runs(times(3, opTick())...)
	d.ok(opTick(), aborts(0, 0, 1))
}

// TestOfANilCoord: Apply answers ErrState, all else nothing (P10.3, W8).
func TestOfANilCoord(t *testing.T) {
	var c *coord.Coord
	for _, o := range append(anyOps(), wrongOps()...) {
		if r, l := c.Apply(o); r != (api.Reply{Err: api.ErrState}) || len(l) != 0 {
			t.Errorf("%+v: %+v %s", o, r, told(l))
		}
	}
	for _, p := range append(noProducers(0), 0, 1, 7) {
		if epoch, ok := c.Epoch(p); epoch != 0 || ok {
			t.Error(epoch, ok)
		}
		if txn, parts, ok := c.Open(p); txn != 0 || len(parts) != 0 || ok {
			t.Error(txn, parts, ok)
		}
	}
	if len(c.Marks()) != 0 || c.Now() != 0 || c.Sum() != (api.Hash{}) {
		t.Error(c.Marks(), c.Now(), c.Sum())
	}
}

// TestACoordThatNewDidNotMake is one of none, too (W1).
func TestACoordThatNewDidNotMake(t *testing.T) {
	var c coord.Coord
	d := &desk{Coord: &c, t: t}
	if got, want := toldCoord(&c), toldCoord(coord.New()); got != want {
		t.Error(got, want)
	}
	d.still(opAdd(0, 0, 1, 0), api.ErrNone)
	d.ok(opInit("a"), inits(0, 0))
	d.ok(opAdd(0, 0, 1, 0))
	again(t, &c, 1, 1, api.Reply{Err: api.ErrNone}, anyOps()...)
	for range 4 {
		d.ok(opTick())
	}
	d.ok(opTick(), aborts(0, 0, 1))
}
