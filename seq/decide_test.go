package seq_test

import (
	"math"
	"slices"
	"testing"

	"seneschal/api"
	"seneschal/seq"
)

// TestWhatIsDecidedIsPendingNoMore: it was the first one, another one, the last one, none (P9.2).
func TestWhatIsDecidedIsPendingNoMore(t *testing.T) {
	p := of(4)
	for value, left := range map[string][]string{"a": {"b", "c"}, "b": {"a", "c"}, "c": {"a", "b"}, "x": {"a", "b", "c"}, "": {"a", "b", "c"}, "aa": {"a", "b", "c"}} {
		s := p.seq(1)
		submits(t, s, "a", "b", "c")
		sent(t, s.Take(p.decision(0, value)), p.at(1).opens(0, left[0])...)
		logIs(t, s, value)
		pendingIs(t, s, left...)
		proofIs(t, s, 0, p.commits(0, value, 0, 1, 2))
	}
}

// TestTheNextRoundWantsTheFirst: who leads the next slot says it at once, who does not when it leads there, who has nothing nothing (P9.2).
func TestTheNextRoundWantsTheFirst(t *testing.T) {
	p := of(4)
	for me := range 4 {
		s := p.seq(me)
		submits(t, s, "a", "b", "c")
		for slot, value := range []string{"x", "a", "y", "b", "c"} {
			got := s.Take(p.at(slot).decision((me+1)%4, value))
			next := p.at(slot + 1)
			if left := s.Pending(); len(left) > 0 && next.leader(0) == me {
				sent(t, got, next.opens(0, string(left[0]))...)
			} else {
				sent(t, got)
			}
		}
		pendingIs(t, s)
	}
	s := p.seq(2)
	submits(t, s, "a", "b")
	s.Take(p.decision(0, "a"))
	status := p.at(1)
	sent(t, s.Tick())
	s.Take(status.status(0, 1, ""))
	sent(t, s.Take(status.status(3, 1, "")), status.opens(1, "b")...)
}

// TestAllThatIsSentIsToldInOrder: a proposal that comes last decides three slots in which votes are there already (P9.2).
func TestAllThatIsSentIsToldInOrder(t *testing.T) {
	p := of(4)
	s := p.seq(1)
	submits(t, s, "a", "b", "c", "d")
	q, r, last := p.at(1), p.at(2), p.at(3)
	sent(t, takes(s,
		r.propose(0, "c"), q.commit(0, 0, "b"), p.prepare(0, 0, "a"), q.prepare(0, 0, "b"), p.commit(2, 0, "a"),
		r.prepare(0, 0, "c"), q.prepare(3, 0, "b"), p.prepare(3, 0, "a"), r.prepare(2, 0, "c"), r.commit(0, 0, "c"),
		p.commit(0, 0, "a"), q.commit(3, 0, "b"), last.propose(0, "e"), r.commit(2, 0, "c")))
	logIs(t, s)
	want := slices.Concat(
		p.toAll(p.prepare(1, 0, "a"), p.commit(1, 0, "a")),
		q.opens(0, "b"), q.toAll(q.commit(1, 0, "b")),
		r.toAll(r.prepare(1, 0, "c"), r.commit(1, 0, "c")),
		last.toAll(last.prepare(1, 0, "e")))
	sent(t, s.Take(p.propose(0, "a")), want...)
	logIs(t, s, "a", "b", "c")
	pendingIs(t, s, "d")
	proofIs(t, s, 0, p.commits(0, "a", 0, 1, 2))
	proofIs(t, s, 1, q.commits(0, "b", 0, 1, 3))
	proofIs(t, s, 2, r.commits(0, "c", 0, 1, 2))
	viewIs(t, s, 0)
}

// TestSeveralSlotsByOneCall: decisions that came ahead, in any order; of two of one slot the first one holds (P9.2).
func TestSeveralSlotsByOneCall(t *testing.T) {
	p := of(4)
	for turn := range 40 {
		c := chance(turn)
		me := turn % 4
		s := p.seq(me)
		all := some(5)
		submits(t, s, "w", all[1+turn%4])
		ahead := []int{1, 2, 3, 4}
		for i := range ahead {
			j := i + c.below(len(ahead)-i)
			ahead[i], ahead[j] = ahead[j], ahead[i]
			s.Take(p.at(ahead[i]).decision((me+1)%4, all[ahead[i]]))
			s.Take(p.at(ahead[i]).decision((me+2)%4, "behind it"))
		}
		logIs(t, s)
		// Wherever it leads meanwhile it says what it wants.
		var want []api.Msg
		for slot := 1; slot <= 5; slot++ {
			if q := p.at(slot); q.leader(0) == me {
				want = append(want, q.opens(0, "w")...)
			}
		}
		sent(t, s.Take(p.decision((me+3)%4, all[0])), want...)
		logIs(t, s, all...)
		pendingIs(t, s, "w")
		for slot, value := range all {
			proofIs(t, s, slot, p.at(slot).commits(0, value, 0, 1, 2))
		}
	}
}

// TestDecidedByATick: votes of the next view are there already (P9.2).
func TestDecidedByATick(t *testing.T) {
	p := of(4)
	s := p.seq(1)
	submits(t, s, "a", "b")
	s.Take(p.at(1).decision(0, "b"))
	sent(t, takes(s, p.status(2, 1, ""), p.status(3, 1, ""), p.prepare(0, 1, "a"), p.prepare(2, 1, "a"), p.commit(3, 1, "a"), p.commit(0, 1, "a")))
	want := slices.Concat(p.opens(1, "a"), p.toAll(p.commit(1, 1, "a")), p.at(1).opens(0, "b"))
	sent(t, s.Tick(), want...)
	logIs(t, s, "a", "b")
	proofIs(t, s, 0, p.commits(1, "a", 0, 1, 3))
	pendingIs(t, s)
	viewIs(t, s, 0)
}

// TestDecidedByASubmit: votes are there already for what is proposed (P9.2).
func TestDecidedByASubmit(t *testing.T) {
	p := of(4)
	s := p.seq(0)
	s.Take(p.at(1).propose(0, "b"))
	sent(t, takes(s, p.prepare(1, 0, "a"), p.prepare(2, 0, "a"), p.commit(3, 0, "a"), p.commit(2, 0, "a")))
	want := slices.Concat(p.opens(0, "a"), p.toAll(p.commit(0, 0, "a")), p.at(1).toAll(p.at(1).prepare(0, 0, "b")))
	sent(t, submits(t, s, "a"), want...)
	logIs(t, s, "a")
	pendingIs(t, s)
	// So it is where a request brings it.
	s = p.seq(0)
	takes(s, p.prepare(1, 0, "a"), p.prepare(2, 0, "a"), p.commit(3, 0, "a"), p.commit(2, 0, "a"))
	sent(t, s.Take(request("a")), want[:9]...)
	logIs(t, s, "a")
}

// TestOneValueInTwoSlots: liars may bring that about, and it stays the log's (P9.2).
func TestOneValueInTwoSlots(t *testing.T) {
	p := of(4)
	s := p.seq(2)
	submits(t, s, "a", "b")
	follows(s, p, 0, "a", "x", "a", "", "")
	logIs(t, s, "a", "x", "a", "", "")
	pendingIs(t, s, "b")
	known(t, s, "a", "x", "b")
	refused(t, s, nil, api.ErrArg)
	for slot, value := range []string{"a", "x", "a", "", ""} {
		proofIs(t, s, slot, p.at(slot).commits(0, value, 0, 1, 2))
	}
}

// TestTheLastSlot: behind it there is no Round, and whatever is still to be is not sent (P9.2).
func TestTheLastSlot(t *testing.T) {
	p := of(4)
	for me := range 4 {
		s := p.seq(me)
		all := some(api.MaxSlots)
		submits(t, s, "w")
		other := (me + 1) % 4
		follows(s, p, other, all[:api.MaxSlots-1]...)
		last := p.at(api.MaxSlots - 1)
		s.Tick()
		viewIs(t, s, 1)
		s.Take(noise(api.MaxSlots))
		sent(t, s.Take(last.decision(other, all[api.MaxSlots-1])))
		logIs(t, s, all...)
		proofIs(t, s, api.MaxSlots-1, last.commits(0, all[api.MaxSlots-1], 0, 1, 2))
		proofIs(t, s, api.MaxSlots, nil)
		pendingIs(t, s, "w")
		viewIs(t, s, 0)
		for range api.MaxView + 1 {
			sent(t, s.Tick())
			viewIs(t, s, 0)
		}
		sent(t, takes(s, p.at(api.MaxSlots).decision(other, "x"), p.at(api.MaxSlots+1).decision(other, "x"), request("x")))
		logIs(t, s, all...)
	}
}

// TestTheLastSlotsByOneCall: what was stored for slots that are none is never taken (P9.2).
func TestTheLastSlotsByOneCall(t *testing.T) {
	p := of(4)
	s := p.seq(2)
	all := some(api.MaxSlots)
	follows(s, p, 0, all[:61]...)
	for slot := 65; slot > 61; slot-- {
		value := "none"
		if slot < api.MaxSlots {
			value = all[slot]
		}
		sent(t, s.Take(p.at(slot).decision(0, value)))
	}
	sent(t, s.Take(p.at(61).decision(0, all[61])))
	logIs(t, s, all...)
}

// TestTicks: they are the Round's (P9.2).
func TestTicks(t *testing.T) {
	p := of(4)
	s := p.seq(3)
	for slot := range 3 {
		q := p.at(slot)
		var want []api.Msg
		for view := 1; view <= api.MaxView; view++ {
			if lead := q.leader(view); lead != 3 {
				want = append(want, to(lead, q.status(3, view, "")))
			}
		}
		var got []api.Msg
		for range api.MaxView + 2 {
			got = append(got, s.Tick()...)
		}
		sent(t, got, want...)
		sent(t, s.Take(q.decision(0, "x")))
	}
}

// TestARingOfOneNode: it decides in whatever view it is (P9.2).
func TestARingOfOneNode(t *testing.T) {
	p := of(1)
	s := p.seq(0)
	sent(t, s.Tick())
	sent(t, s.Tick())
	viewIs(t, s, 2)
	sent(t, submits(t, s, "a"))
	viewIs(t, s, 0)
	sent(t, submits(t, s, "b"))
	logIs(t, s, "a", "b")
	proofIs(t, s, 0, p.commits(2, "a", 0))
	proofIs(t, s, 1, p.at(1).commits(0, "b", 0))
	// Nobody else is there whose word could count.
	sent(t, takes(s, p.at(2).decision(0, "c"), p.at(3).decision(0, "c"), p.status(0, 1, ""), p.status(1, 1, "")))
	sent(t, submits(t, s, "d"))
	logIs(t, s, "a", "b", "d")
}

// TestRingsOfEachSize: one leads, the others follow (P9.2).
func TestRingsOfEachSize(t *testing.T) {
	for count := 1; count <= api.MaxNodes; count++ {
		p := of(count)
		var all []*seq.Seq
		for me := range count {
			all = append(all, p.seq(me))
		}
		values := some(5)
		for slot, value := range values {
			on := submits(t, all[slot%count], value)
			for len(on) > 0 {
				m := on[0]
				on = append(on[1:], all[m.To].Take(m)...)
			}
		}
		for _, s := range all {
			logIs(t, s, values...)
		}
	}
}

// TestANilRing: there is no node, so nothing is decided, and nobody is answered (W1).
func TestANilRing(t *testing.T) {
	p := of(4)
	for _, me := range []int{0, 1, -1, 9} {
		s := seq.New(nil, me)
		sent(t, submits(t, s, "a", "b"))
		for _, m := range []api.Msg{p.propose(0, "x"), p.decision(1, "x"), p.at(1).decision(1, "y"), p.status(2, 1, "")} {
			sent(t, s.Take(m))
			m.Tag = api.Hash{}
			sent(t, s.Take(m))
		}
		for view := 1; view <= api.MaxView; view++ {
			s.Tick()
			viewIs(t, s, view)
		}
		logIs(t, s)
		pendingIs(t, s, "a", "b")
	}
}

// TestWhoIsNoNode: it is told what others decide, and answers who asks; no seal of its stands (W1).
func TestWhoIsNoNode(t *testing.T) {
	p := of(4)
	for _, me := range []int{-1, 4, 10, math.MinInt, math.MaxInt} {
		s := p.seq(me)
		sent(t, submits(t, s, "a", "b"))
		follows(s, p, 0, "a", "x")
		logIs(t, s, "a", "x")
		pendingIs(t, s, "b")
		l := s.Take(p.status(3, 1, ""))
		sent(t, l, to(3, p.decide(me, "a", p.commits(0, "a", 0, 1, 2)...)))
		if len(l) == 1 && l[0].Tag != (api.Hash{}) {
			t.Error("there is no such seal:", l[0].Tag)
		}
	}
}

// TestASeqThatNobodyMade: its zero value does not panic (W1).
func TestASeqThatNobodyMade(t *testing.T) {
	var s seq.Seq
	p := of(4)
	for slot := -1; slot < 70; slot++ {
		s.Submit([]byte{byte(slot)})
		s.Take(p.at(slot).decision(0, "x"))
		s.Take(p.at(slot).status(0, 1, ""))
		s.Tick()
		s.Proof(slot)
	}
	s.Log()
	s.Pending()
	s.View()
}
