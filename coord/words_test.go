package coord_test

import (
	"crypto/sha256"
	"fmt"
	"math"
	"slices"
	"strings"
	"testing"

	"seneschal/api"
	"seneschal/coord"
)

// desk is a Coord, and what tells the next operation from those ahead of it.
type desk struct {
	*coord.Coord
	t    *testing.T
	came int
}

func newDesk(t *testing.T) *desk { return &desk{Coord: coord.New(), t: t} }

// deskOf is one where these names have come.
func deskOf(t *testing.T, names ...string) *desk {
	d := newDesk(t)
	for _, name := range names {
		d.runs(opInit(name))
	}
	return d
}

// fresh is an operation under numbers that were not there yet.
func (d *desk) fresh(o api.Op) api.Op {
	d.came++
	o.Client, o.Seq = d.came%16, d.came
	return o
}

// runs applies operations that are all OK.
func (d *desk) runs(l ...api.Op) {
	d.t.Helper()
	for _, o := range l {
		if r, _ := d.Apply(d.fresh(o)); r.Err != api.OK {
			d.t.Errorf("%+v: %v", o, r)
		}
	}
}

// does: an operation is answered so, marks just this, in that order, and these stand behind all marks ahead.
func (d *desk) does(o api.Op, want api.Reply, marks ...api.Mark) {
	d.t.Helper()
	was := d.Marks()
	r, got := d.Apply(d.fresh(o))
	if r != want || !slices.Equal(got, marks) {
		d.t.Errorf("%+v: %+v %s, not %+v %s", o, r, told(got), want, told(marks))
	}
	if got := d.Marks(); !slices.Equal(got, append(was, marks...)) {
		d.t.Errorf("%+v: all marks are %s", o, told(got))
	}
}

// ok: an operation is OK, and marks just this.
func (d *desk) ok(o api.Op, marks ...api.Mark) {
	d.t.Helper()
	d.does(o, api.Reply{}, marks...)
}

// still: an operation is answered so, and nothing is marked or has changed.
func (d *desk) still(o api.Op, err api.Errno) {
	d.t.Helper()
	was := toldCoord(d.Coord)
	d.does(o, api.Reply{Err: err})
	if got := toldCoord(d.Coord); got != was {
		d.t.Errorf("%+v: %s\nwas\n%s", o, got, was)
	}
}

// epochIs: the producer is there, in that epoch.
func (d *desk) epochIs(producer, want int) {
	d.t.Helper()
	if got, ok := d.Epoch(producer); got != want || !ok {
		d.t.Errorf("producer %d: epoch %d %v, not %d", producer, got, ok, want)
	}
}

// openIs: the producer has that transaction open, with these parts.
func (d *desk) openIs(producer, txn int, parts ...int) {
	d.t.Helper()
	if got, l, ok := d.Open(producer); got != txn || !slices.Equal(l, parts) || !ok {
		d.t.Errorf("producer %d: open is %d %v %v, not %d %v", producer, got, l, ok, txn, parts)
	}
}

// shut: these producers have none open.
func (d *desk) shut(producers ...int) {
	d.t.Helper()
	for _, p := range producers {
		if got, l, ok := d.Open(p); got != 0 || len(l) != 0 || ok {
			d.t.Errorf("producer %d: open is %d %v %v", p, got, l, ok)
		}
	}
}

func opInit(name string) api.Op { return api.Op{Kind: api.OpInit, Name: name} }

func opAdd(producer, epoch, txn, part int) api.Op {
	return api.Op{Kind: api.OpAdd, Producer: producer, Epoch: epoch, Txn: txn, Part: part}
}

func opEnd(producer, epoch, txn int, commit bool) api.Op {
	return api.Op{Kind: api.OpEnd, Producer: producer, Epoch: epoch, Txn: txn, Commit: commit}
}

func opTick() api.Op { return api.Op{Kind: api.OpTick} }

// under is an operation with these numbers.
func under(client, seq int, o api.Op) api.Op {
	o.Client, o.Seq = client, seq
	return o
}

// times is an operation so many times.
func times(n int, o api.Op) []api.Op { return slices.Repeat([]api.Op{o}, n) }

func inits(producer, epoch int) api.Mark {
	return api.Mark{Kind: api.MarkInit, Producer: producer, Epoch: epoch}
}

func commits(producer, epoch, txn int) api.Mark {
	return api.Mark{Kind: api.MarkCommit, Producer: producer, Epoch: epoch, Txn: txn}
}

func aborts(producer, epoch, txn int) api.Mark {
	return api.Mark{Kind: api.MarkAbort, Producer: producer, Epoch: epoch, Txn: txn}
}

// ended is the mark by which a transaction is decided.
func ended(producer, epoch, txn int, commit bool) api.Mark {
	if commit {
		return commits(producer, epoch, txn)
	}
	return aborts(producer, epoch, txn)
}

// names are so many that are unlike each other, and do not come by their order in the alphabet.
func names(count int) []string {
	return []string{"h", "a", "hh", "zzzzzzzz", "aa", "ah", "q", "abcdefgh", "b", "zz"}[:count]
}

// told is marks in words.
func told(l []api.Mark) string {
	var s strings.Builder
	for _, m := range l {
		fmt.Fprintf(&s, "[%d %d/%d/%d]", m.Kind, m.Producer, m.Epoch, m.Txn)
	}
	return s.String()
}

// toldCoord is all that a Coord tells of itself.
func toldCoord(c *coord.Coord) string {
	var s strings.Builder
	fmt.Fprintf(&s, "now %d, marks %s %x", c.Now(), told(c.Marks()), c.Sum())
	for p := -1; p <= api.MaxProducers; p++ {
		epoch, there := c.Epoch(p)
		txn, parts, open := c.Open(p)
		fmt.Fprintf(&s, ", %d: %d %v, %d %v %v", p, epoch, there, txn, parts, open)
	}
	return s.String()
}

// sumOf is the digest of marks, laid by hand: each of their numbers is one byte.
func sumOf(l []api.Mark) api.Hash {
	var rows []byte
	for _, m := range l {
		rows = append(rows, 3, byte(m.Kind), byte(m.Producer), byte(m.Epoch), byte(m.Txn))
	}
	return sha256.Sum256(rows)
}

// noProducers are numbers of none, where so many are there.
func noProducers(count int) []int {
	return []int{math.MinInt, -9, -1, count, count + 1, 8, 9, 1 << 32, math.MaxInt}
}

// chance is a row of numbers that is the same each time.
type chance uint32

// below is the next number of it, 0 or more and below top.
func (c *chance) below(top int) int {
	*c = *c*1664525 + 1013904223
	return int(*c>>16) % top
}

// oneIn is true once in so many times.
func (c *chance) oneIn(times int) bool { return c.below(times) == 0 }

func TestTheNumbersOfTheTestsAreThoseOfPackageApi(t *testing.T) {
	got := []int{api.OpInit, api.OpAdd, api.OpEnd, api.OpTick, api.MarkInit, api.MarkCommit, api.MarkAbort, api.MaxName, api.MaxProducers, api.MaxEpoch, api.MaxTxn, api.MaxPart, api.MaxClient, api.MaxSeq, api.Timeout}
	if want := []int{1, 2, 3, 4, 1, 2, 3, 8, 8, 100, 100, 3, 15, 1 << 20, 5}; !slices.Equal(got, want) {
		t.Error(got, want)
	}
}
