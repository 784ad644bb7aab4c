package coord_test

import (
	"fmt"
	"math"
	"slices"
	"testing"

	"seneschal/api"
	"seneschal/coord"
)

// wrongOps are operations that may not be, each by one thing alone.
func wrongOps() []api.Op {
	whole := []api.Op{opInit("a"), opAdd(0, 0, 1, 0), opEnd(0, 0, 1, true), opTick()}
	var l []api.Op
	for _, o := range whole {
		for _, n := range []int{math.MinInt, -1, 16, 1 << 32, math.MaxInt} {
			l = append(l, under(n, 7, o))
		}
		for _, n := range []int{math.MinInt, -1, 1<<20 + 1, math.MaxInt} {
			l = append(l, under(7, n, o))
		}
		for _, kind := range []int{math.MinInt, -1, 0, 5, math.MaxInt} {
			wrong := o
			wrong.Kind = kind
			l = append(l, wrong)
		}
	}
	for _, name := range []string{"", "A", "a ", "a1", "\x00", "ä", "`", "{", "abcdefghi", string(make([]byte, 1000))} {
		l = append(l, opInit(name))
	}
	for _, o := range whole[1:3] {
		for _, change := range []func(*api.Op, int){
			func(o *api.Op, n int) { o.Producer = n },
			func(o *api.Op, n int) { o.Epoch = n + 93*min(max(n, 0), 1) },
			func(o *api.Op, n int) { o.Txn = n + 93*min(max(n, 0), 1) },
		} {
			for _, n := range []int{math.MinInt, -1, 8, 1 << 32} {
				wrong := o
				change(&wrong, n)
				l = append(l, wrong)
			}
		}
	}
	for _, n := range []int{math.MinInt, -1, 4, math.MaxInt} {
		l = append(l, opAdd(0, 0, 1, n))
	}
	return append(l, unnamedFields()...)
}

// unnamedFields are operations with a field that their kind does not name.
func unnamedFields() []api.Op {
	return []api.Op{
		{},
		{Kind: api.OpInit, Name: "a", Producer: 1},
		{Kind: api.OpInit, Name: "a", Epoch: 1},
		{Kind: api.OpInit, Name: "a", Txn: 1},
		{Kind: api.OpInit, Name: "a", Part: 1},
		{Kind: api.OpInit, Name: "a", Commit: true},
		{Kind: api.OpAdd, Txn: 1, Name: "a"},
		{Kind: api.OpAdd, Txn: 1, Commit: true},
		{Kind: api.OpEnd, Txn: 1, Name: "a"},
		{Kind: api.OpEnd, Txn: 1, Part: 1},
		{Kind: api.OpTick, Name: "a"},
		{Kind: api.OpTick, Producer: 1},
		{Kind: api.OpTick, Epoch: 1},
		{Kind: api.OpTick, Txn: 1},
		{Kind: api.OpTick, Part: 1},
		{Kind: api.OpTick, Commit: true},
	}
}

// refused: an operation is answered ErrState and nothing, and nothing has changed.
func refused(t *testing.T, c *coord.Coord, o api.Op) {
	t.Helper()
	was := toldCoord(c)
	if r, l := c.Apply(o); r != (api.Reply{Err: api.ErrState}) || len(l) != 0 {
		t.Errorf("%+v: %+v %s", o, r, told(l))
	}
	if got := toldCoord(c); got != was {
		t.Errorf("%+v: %s\nwas\n%s", o, got, was)
	}
}

// TestWhatMayNotBe: ErrState and nothing, of each kind, whatever is there (P10.1).
func TestWhatMayNotBe(t *testing.T) {
	empty, full := coord.New(), deskOf(t, "a", "b")
	full.runs(opAdd(0, 0, 1, 2), opTick(), opTick(), opTick(), opTick())
	for _, o := range wrongOps() {
		refused(t, empty, o)
		refused(t, full.Coord, o)
	}
	full.openIs(0, 1, 2)
}

// TestWhatMayNotBeIsNotRemembered: another one under its numbers is applied; and it is ErrState, too, under numbers that were applied ahead (P10.1).
func TestWhatMayNotBeIsNotRemembered(t *testing.T) {
	for _, o := range wrongOps() {
		c := coord.New()
		refused(t, c, o)
		good := under(min(max(o.Client, 0), 15), min(max(o.Seq, 0), 1<<20), opInit("z"))
		if r, l := c.Apply(good); r != (api.Reply{}) || !slices.Equal(l, []api.Mark{inits(0, 0)}) {
			t.Errorf("behind %+v: %+v %s", o, r, told(l))
		}
		refused(t, c, o)
	}
}

// again: operations under numbers that were applied ahead are answered so, mark nothing, and nothing has changed.
func again(t *testing.T, c *coord.Coord, client, seq int, want api.Reply, l ...api.Op) {
	t.Helper()
	for _, o := range l {
		was := toldCoord(c)
		if r, marks := c.Apply(under(client, seq, o)); r != want || len(marks) != 0 {
			t.Errorf("%d %d, %+v: %+v %s, not %+v", client, seq, o, r, told(marks), want)
		}
		if got := toldCoord(c); got != was {
			t.Errorf("%+v: %s\nwas\n%s", o, got, was)
		}
	}
}

// anyOps are some that would be answered one so, one so, and mark something.
func anyOps() []api.Op {
	return []api.Op{opInit("a"), opInit("y"), opAdd(0, 0, 1, 1), opAdd(0, 1, 1, 1), opAdd(0, 1, 2, 1), opEnd(0, 1, 1, true), opEnd(0, 0, 1, false), opTick()}
}

// TestAnsweredAsThen: an operation that was applied ahead, the same one and any other one under its numbers, whatever was applied between (P10.1).
func TestAnsweredAsThen(t *testing.T) {
	l := []api.Op{opAdd(0, 0, 1, 0), opInit("a"), opInit("b"), opAdd(0, 0, 3, 0), opAdd(0, 0, 1, 0), opEnd(1, 0, 1, true), opTick(), opEnd(0, 0, 1, true), opEnd(0, 0, 1, false), opInit("a"), opEnd(0, 0, 1, true), opAdd(0, 1, 1, 2), opTick()}
	c := coord.New()
	var replies []api.Reply
	errs := map[api.Errno]int{}
	for i, o := range l {
		o = under(i%3, 5+i/3, o)
		r, _ := c.Apply(o)
		replies = append(replies, r)
		errs[r.Err]++
		for elder, want := range replies {
			again(t, c, elder%3, 5+elder/3, want, append(anyOps(), l[elder], o)...)
		}
	}
	if errs[api.OK] != 8 || errs[api.ErrNone] != 1 || errs[api.ErrFenced] != 1 || errs[api.ErrState] != 3 {
		t.Error(errs)
	}
}

// TestErrorsAreAnsweredAsThen, also where they would be none any more: each error (P10.1).
func TestErrorsAreAnsweredAsThen(t *testing.T) {
	d := newDesk(t)
	first := func(seq int, o api.Op, err api.Errno) {
		t.Helper()
		if r, l := d.Apply(under(9, seq, o)); r != (api.Reply{Err: err}) || len(l) != 0 {
			t.Errorf("%+v: %+v %s, not %v", o, r, told(l), err)
		}
	}
	first(1<<20-1, opAdd(0, 0, 1, 0), api.ErrNone)
	d.runs(opInit("a"))
	again(t, d.Coord, 9, 1<<20-1, api.Reply{Err: api.ErrNone}, append(anyOps(), opAdd(0, 0, 1, 0))...)
	first(1<<20-2, opAdd(0, 1, 1, 0), api.ErrFenced)
	d.runs(opInit("a"))
	again(t, d.Coord, 9, 1<<20-2, api.Reply{Err: api.ErrFenced}, append(anyOps(), opAdd(0, 1, 1, 0))...)
	first(1<<20-3, opEnd(0, 1, 1, true), api.ErrState)
	d.runs(opAdd(0, 1, 1, 0))
	again(t, d.Coord, 9, 1<<20-3, api.Reply{Err: api.ErrState}, append(anyOps(), opEnd(0, 1, 1, true))...)
	d.openIs(0, 1, 0)
	d.runs(opEnd(0, 1, 1, true))
	for txn := 2; txn <= 100; txn++ {
		d.runs(opAdd(0, 1, txn, 0), opEnd(0, 1, txn, true))
	}
	first(1<<20-4, opAdd(0, 1, 1, 0), api.ErrUsed)
	d.runs(opInit("a"))
	again(t, d.Coord, 9, 1<<20-4, api.Reply{Err: api.ErrUsed}, append(anyOps(), opAdd(0, 2, 1, 0))...)
	d.runs(times(98, opInit("a"))...)
	first(1<<20-5, opInit("a"), api.ErrUsed)
	for _, name := range names(10)[2:9] {
		d.runs(opInit(name))
	}
	first(1<<20-6, opInit("zz"), api.ErrFull)
	again(t, d.Coord, 9, 1<<20-5, api.Reply{Err: api.ErrUsed}, append(anyOps(), opInit("zz"), opInit("hh"))...)
	again(t, d.Coord, 9, 1<<20-6, api.Reply{Err: api.ErrFull}, append(anyOps(), opInit("zz"), opInit("hh"))...)
}

// TestATickThatCameAgainIsNone (P10.1).
func TestATickThatCameAgainIsNone(t *testing.T) {
	d := deskOf(t, "a")
	d.runs(opAdd(0, 0, 1, 0))
	for seq := range 5 {
		r, l := d.Apply(under(15, 1000+seq, opTick()))
		if r != (api.Reply{}) || len(l) != seq/4 {
			t.Error(seq, r, told(l))
		}
		again(t, d.Coord, 15, 1000+seq, api.Reply{}, times(9, opTick())...)
	}
	if d.Now() != 5 {
		t.Error(d.Now())
	}
}

// TestClientAndSeqTogetherTellAnOperation: the least and the greatest of both, and those that are near each other (P10.1).
func TestClientAndSeqTogetherTellAnOperation(t *testing.T) {
	c := coord.New()
	seqs := []int{0, 1, 2, 15, 16, 17, 255, 1 << 16, 1<<20 - 1, 1 << 20}
	n := 0
	for client := range 16 {
		for _, seq := range seqs {
			if r, l := c.Apply(under(client, seq, opTick())); r != (api.Reply{}) || len(l) != 0 {
				t.Error(client, seq, r)
			}
			n++
			if c.Now() != n {
				t.Fatalf("client %d, seq %d: now it is %d, not %d", client, seq, c.Now(), n)
			}
		}
	}
	for client := range 16 {
		for _, seq := range seqs {
			again(t, c, client, seq, api.Reply{}, opTick(), opInit("a"))
		}
	}
}

// TestMuchIsRemembered: the first of very many operations, too (P10.1).
func TestMuchIsRemembered(t *testing.T) {
	d := deskOf(t, "a")
	for seq := range 40000 {
		d.Apply(under(seq%16, 1000+seq, opInit(fmt.Sprintf("%c%c", 'a'+seq%7, 'a'+seq%2))))
	}
	was := toldCoord(d.Coord)
	for seq := range 40000 {
		d.Apply(under(seq%16, 1000+seq, opTick()))
	}
	if got := toldCoord(d.Coord); got != was {
		t.Error(got, was)
	}
}
