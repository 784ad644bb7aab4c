package round_test

import (
	"math"
	"strings"
	"testing"

	"seneschal/api"
	"seneschal/round"
	"seneschal/rule"
)

// TestWantOfNothing: a nil value, an empty one, one that is too long; what was wanted before stays (P8.3).
func TestWantOfNothing(t *testing.T) {
	p := of(4)
	for _, none := range [][]byte{nil, {}, make([]byte, api.MaxValue+1), make([]byte, 5000)} {
		x := p.round(0)
		sent(t, x.Want(none))
		sent(t, x.Want([]byte("x")), p.toAll(p.propose(0, 0, "x"), p.prepare(0, 0, "x"))...)

		x = p.round(1)
		x.Want([]byte("w"))
		sent(t, x.Want(none))
		x.Tick()
		sent(t, x.Want(none))
		x.Take(p.status(0, 1, ""))
		sent(t, x.Take(p.status(2, 1, "")), p.toAll(p.propose(1, 1, "w"), p.prepare(1, 1, "w"))...)

		// Where all else is ready, nothing is no wish.
		x = p.round(1)
		x.Tick()
		takes(x, p.status(0, 1, ""), p.status(2, 1, ""))
		sent(t, x.Want(none))
		viewIs(t, x, 1)
	}
}

// TestWantAtTheEdges: one byte, and MaxValue of them (P8.3).
func TestWantAtTheEdges(t *testing.T) {
	p := of(4)
	for _, value := range []string{"\x00", "x", strings.Repeat("v", api.MaxValue-1), strings.Repeat("v", api.MaxValue)} {
		x := p.round(0)
		sent(t, x.Want([]byte(value)), p.toAll(p.propose(0, 0, value), p.prepare(0, 0, value))...)
	}
}

// TestWantTwice: the later one holds, for what is not yet proposed (P8.3).
func TestWantTwice(t *testing.T) {
	p := of(4)
	x := p.round(1)
	sent(t, x.Want([]byte("a")))
	sent(t, x.Want([]byte("b")))
	x.Tick()
	takes(x, p.status(0, 1, ""))
	sent(t, x.Want([]byte("c")))
	sent(t, x.Take(p.status(3, 1, "")), p.toAll(p.propose(1, 1, "c"), p.prepare(1, 1, "c"))...)

	x = p.round(0)
	sent(t, x.Want([]byte("a")), p.toAll(p.propose(0, 0, "a"), p.prepare(0, 0, "a"))...)
	sent(t, x.Want([]byte("b")))
	sent(t, x.Want([]byte("a")))
	// What was proposed is still wanted, until something else is.
	x.Want([]byte("c"))
	ticked(x, 4)
	sent(t, takes(x, p.status(1, 4, ""), p.status(2, 4, "")), p.toAll(p.propose(0, 4, "c"), p.prepare(0, 4, "c"))...)
	sent(t, ticked(x, 3), to(1, p.status(0, 5, "")), to(2, p.status(0, 6, "")), to(3, p.status(0, 7, "")))
	takes(x, p.status(1, 8, ""), p.status(2, 8, ""))
	sent(t, x.Tick(), p.toAll(p.propose(0, 8, "c"), p.prepare(0, 8, "c"))...)
}

// TestWantAfterATick: who led view 0 and said nothing then does not lead any more (P8.3).
func TestWantAfterATick(t *testing.T) {
	p := of(4)
	x := p.round(0)
	x.Tick()
	sent(t, x.Want([]byte("x")))
	// And a wish alone does not make a proposal in a later view: that needs statuses.
	x = p.round(1)
	x.Tick()
	sent(t, x.Want([]byte("x")))
	x.Take(p.status(0, 1, ""))
	sent(t, x.Want([]byte("y")))
	sent(t, x.Take(p.status(2, 1, "")), p.toAll(p.propose(1, 1, "y"), p.prepare(1, 1, "y"))...)
}

func TestWantAndTickAfterADecision(t *testing.T) {
	p := of(4)
	for _, me := range []int{0, 1, 2} {
		x := p.round(me)
		x.Take(p.decide(3, "d", p.commits(1, "d", 0, 1, 3)...))
		was := toldRound(x)
		sent(t, x.Want([]byte("x")))
		sent(t, x.Tick())
		sent(t, x.Want(nil))
		if got := toldRound(x); got != was {
			t.Errorf("%s\nwas\n%s", got, was)
		}
	}
}

// TestTickUpToMaxView: one view at a time, and no further (P8.3).
func TestTickUpToMaxView(t *testing.T) {
	for count := 2; count <= api.MaxNodes; count++ {
		p := of(count)
		for me := range count {
			x := p.round(me)
			viewIs(t, x, 0)
			for view := 1; view <= api.MaxView; view++ {
				if p.leader(view) == me {
					sent(t, x.Tick())
				} else {
					sent(t, x.Tick(), to(p.leader(view), p.status(me, view, "")))
				}
				viewIs(t, x, view)
			}
			for range 3 {
				sent(t, x.Tick())
				viewIs(t, x, api.MaxView)
			}
			free(t, x)
			undecided(t, x)
		}
	}
}

// TestTickAtMaxViewChangesNothing: what was going on there goes on (P8.3).
func TestTickAtMaxViewChangesNothing(t *testing.T) {
	p := of(4)
	x := p.round(0)
	x.Want([]byte("w"))
	ticked(x, 8)
	x.Take(p.status(1, 8, ""))
	sent(t, ticked(x, 5))
	sent(t, x.Take(p.status(2, 8, "")), p.toAll(p.propose(0, 8, "w"), p.prepare(0, 8, "w"))...)
	sent(t, x.Tick())
	sent(t, takes(x, p.prepare(1, 8, "w"), p.prepare(3, 8, "w")), p.toAll(p.commit(0, 8, "w"))...)
	sent(t, x.Tick())
	takes(x, p.commit(1, 8, "w"), p.commit(3, 8, "w"))
	decided(t, x, "w", p.commits(8, "w", 0, 1, 3))
}

// TestTheStatusTellsTheLock: its Value and Votes, to the new view's Leader alone (P8.3).
func TestTheStatusTellsTheLock(t *testing.T) {
	p := of(7)
	x := p.round(3)
	x.Want([]byte("w"))
	takes(x, p.propose(4, 0, "x"))
	for _, from := range []int{6, 5, 0, 1} {
		x.Take(p.prepare(from, 0, "x"))
	}
	lock := p.prepares(0, "x", 0, 1, 3, 5, 6)
	locked(t, x, 0, "x", lock)
	for view := 1; view <= 5; view++ {
		sent(t, x.Tick(), to((4+view)%7, p.status(3, view, "x", lock...)))
	}
	sent(t, x.Tick()) // in view 6 it leads itself
	for _, from := range []int{0, 1, 2} {
		sent(t, x.Take(p.status(from, 6, "")))
	}
	sent(t, x.Take(p.status(4, 6, "")), p.toAll(p.propose(3, 6, "x", lock...), p.prepare(3, 6, "x"))...)
}

// TestTheStatusIsThatOfTheTick: it is sent ahead of the steps, with the lock as it was before them (P8.3).
func TestTheStatusIsThatOfTheTick(t *testing.T) {
	p := of(4)
	x := p.round(3)
	takes(x, p.propose(0, 0, "x"), p.prepare(0, 0, "x"), p.prepare(1, 0, "x"))
	takes(x, p.propose(1, 1, "x"), p.prepare(0, 1, "x"), p.prepare(1, 1, "x"))
	elder := p.prepares(0, "x", 0, 1, 3)
	sent(t, x.Tick(), append([]api.Msg{to(1, p.status(3, 1, "x", elder...))}, p.toAll(p.prepare(3, 1, "x"), p.commit(3, 1, "x"))...)...)
	locked(t, x, 1, "x", p.prepares(1, "x", 0, 1, 3))
	// To itself, too: the lock that it proposes is that of its status, not the one that it has by then.
	y := p.round(1)
	takes(y, p.propose(0, 0, "x"), p.prepare(0, 0, "x"), p.prepare(2, 0, "x"), p.propose(2, 2, "z"))
	takes(y, p.prepare(0, 1, "z"), p.prepare(2, 1, "z"), p.prepare(3, 1, "z"), p.status(0, 1, ""), p.status(2, 1, ""))
	sent(t, y.Tick(), p.toAll(p.commit(1, 1, "z"), p.propose(1, 1, "x", p.prepares(0, "x", 0, 1, 2)...))...)
}

// TestANilRound: nothing is sent, and all is nothing (P8.4, W8).
func TestANilRound(t *testing.T) {
	var x *round.Round
	p := of(4)
	sent(t, x.Want([]byte("x")))
	for _, m := range append(countingMsgs(p), api.Msg{}) {
		sent(t, x.Take(m))
	}
	sent(t, x.Tick())
	viewIs(t, x, 0)
	undecided(t, x)
	if k := x.Lock(); k.View != 0 || k.Value != nil || k.Votes != nil {
		t.Error("a nil Round's lock is not its zero value:", k)
	}
}

// TestANilRing: there is no node, so nothing is believed and nothing is decided (P6.3, W1).
func TestANilRing(t *testing.T) {
	p := of(4)
	for _, me := range []int{0, 1, -1, 9} {
		x := round.New(nil, me, 4)
		sent(t, x.Want([]byte("x")))
		for _, m := range countingMsgs(p) {
			sent(t, x.Take(m))
			m.Tag = api.Hash{}
			sent(t, x.Take(m))
		}
		for _, m := range ticked(x, 9) {
			if m.To != 0 || m.From != me || m.Tag != (api.Hash{}) || m.Kind != api.MsgStatus {
				t.Error(told([]api.Msg{m}))
			}
		}
		sent(t, x.Want([]byte("y")))
		undecided(t, x)
		free(t, x)
		viewIs(t, x, api.MaxView)
	}
}

// TestWhoIsNoNode: it is told all, but its own votes are not Good, and it leads nothing (P8.2, W1).
func TestWhoIsNoNode(t *testing.T) {
	p := of(4)
	for _, me := range []int{-1, 4, 9, 10, math.MinInt, math.MaxInt, -4 + 1<<32} {
		x := p.round(me)
		sent(t, x.Want([]byte("x")))
		got := x.Take(p.propose(0, 0, "x"))
		sent(t, got, p.toAll(p.prepare(me, 0, "x"))...)
		if len(got) != 4 || got[0].Votes[0].Tag != (api.Hash{}) {
			t.Error(told(got))
		}
		sent(t, takes(x, p.prepare(0, 0, "x"), p.prepare(1, 0, "x")))
		sent(t, x.Take(p.prepare(2, 0, "x")), p.toAll(p.commit(me, 0, "x"))...)
		locked(t, x, 0, "x", p.prepares(0, "x", 0, 1, 2))
		takes(x, p.commit(3, 0, "x"), p.commit(1, 0, "x"))
		undecided(t, x)
		sent(t, x.Tick(), to(1, p.status(me, 1, "x", p.prepares(0, "x", 0, 1, 2)...)))
		x.Take(p.commit(2, 0, "x"))
		decided(t, x, "x", p.commits(0, "x", 1, 2, 3))
	}
}

// TestSlotsOfAllNumbers: none panics, and where no message may be none is taken (W1).
func TestSlotsOfAllNumbers(t *testing.T) {
	for _, slot := range []int{math.MinInt, -1 << 32, -5, -1, 64, 65, 1 << 32, math.MaxInt - 1, math.MaxInt} {
		p := place{of(4).ring, slot}
		lead := rule.Leader(slot, 0, 4)
		x := p.round(lead)
		sent(t, x.Want([]byte("x")), p.toAll(p.propose(lead, 0, "x"), p.prepare(lead, 0, "x"))...)
		x = p.round((lead + 1) % 4)
		sent(t, takes(x, p.propose(lead, 0, "x"), p.prepare(lead, 0, "x"), p.decide(lead, "x", p.commits(0, "x", 0, 1, 2, 3)...)))
		undecided(t, x)
		for view := 1; view <= 9; view++ {
			x.Tick()
		}
		viewIs(t, x, api.MaxView)
		one := place{of(1).ring, slot}
		y := one.round(0)
		sent(t, y.Want([]byte("x")))
		decided(t, y, "x", one.commits(0, "x", 0))
	}
}

// TestTheFirstAndTheLastSlot (P8.1).
func TestTheFirstAndTheLastSlot(t *testing.T) {
	for _, slot := range []int{0, 1, 62, 63} {
		p := place{of(4).ring, slot}
		lead := slot % 4
		x := p.round((lead + 1) % 4)
		sent(t, x.Take(p.propose(lead, 0, "x")), p.toAll(p.prepare((lead+1)%4, 0, "x"))...)
		x.Take(p.decide(lead, "x", p.commits(8, "x", 0, 1, 2)...))
		decided(t, x, "x", p.commits(8, "x", 0, 1, 2))
	}
}

// TestARoundThatNobodyMade: its zero value does not panic (W1).
func TestARoundThatNobodyMade(t *testing.T) {
	var x round.Round
	x.Want([]byte("x"))
	for _, m := range countingMsgs(of(4)) {
		x.Take(m)
	}
	for range 10 {
		x.Tick()
		x.Want([]byte("y"))
	}
	x.Lock()
	x.View()
	undecided(t, &x)
}
