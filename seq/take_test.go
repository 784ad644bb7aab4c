package seq_test

import (
	"math"
	"slices"
	"testing"

	"seneschal/api"
	"seneschal/seal"
	"seneschal/seq"
	"seneschal/wire"
)

// TestTakeOfARequest: its Value is submitted, whoever sends it, whatever else it says (P9.1).
func TestTakeOfARequest(t *testing.T) {
	p := of(4)
	strange := []func(*api.Msg){
		func(m *api.Msg) {},
		func(m *api.Msg) { m.From = 0 }, // that is me
		func(m *api.Msg) { m.From = 3 },
		func(m *api.Msg) { *m = p.sealed(*m) },
		func(m *api.Msg) { m.From = 9 },
		func(m *api.Msg) { m.From, m.To = -1, math.MaxInt },
		func(m *api.Msg) { m.Slot, m.View = 1, 3 },
		func(m *api.Msg) { m.Slot = api.Window + 1 },
		func(m *api.Msg) { m.Slot, m.View = -1, -1 },
		func(m *api.Msg) { m.Slot, m.View = math.MaxInt, math.MinInt },
		func(m *api.Msg) { m.Votes = make([]api.Vote, 11) },
		func(m *api.Msg) { m.Tag = otherSeed },
	}
	for _, change := range strange {
		s, m := p.seq(0), request("a")
		change(&m)
		sent(t, s.Take(m), p.opens(0, "a")...)
		sent(t, s.Take(m))
		m.Value = []byte("b")
		sent(t, s.Take(m))
		pendingIs(t, s, "a", "b")
		// A slot that is below the current one is answered no otherwise.
		s.Take(p.decision(1, "a"))
		m.Value = []byte("c")
		sent(t, s.Take(m))
		pendingIs(t, s, "b", "c")
	}
	one := of(1).seq(0)
	sent(t, takes(one, request("a"), request("b"), request("a")))
	logIs(t, one, "a", "b")
}

// TestTakeOfARequestThatSubmitRefuses: nothing is sent, nothing has changed (P9.1).
func TestTakeOfARequestThatSubmitRefuses(t *testing.T) {
	p := of(4)
	s := p.seq(2)
	never := func(values ...string) {
		t.Helper()
		was := toldSeq(s)
		for _, value := range append(values, "", longest+"v") {
			sent(t, s.Take(request(value)))
		}
		if got := toldSeq(s); got != was {
			t.Errorf("%s\nwas\n%s", got, was)
		}
	}
	never()
	all := some(api.MaxPending)
	for _, value := range all {
		s.Take(request(value))
	}
	pendingIs(t, s, all...)
	never("more", all[0], all[9])
	s, all = full(p, 2)
	never("more", all[0], all[9])
}

// TestTakeOfTheCurrentSlot: what its Round sends and decides (P9.1).
func TestTakeOfTheCurrentSlot(t *testing.T) {
	p := of(4)
	s := p.seq(3)
	for slot, value := range []string{"a", "b", "c"} {
		p := p.at(slot)
		sent(t, s.Take(p.propose(0, value)), p.toAll(p.prepare(3, 0, value))...)
		sent(t, s.Take(p.prepare(0, 0, value)))
		sent(t, s.Take(p.prepare(1, 0, value)), p.toAll(p.commit(3, 0, value))...)
		sent(t, takes(s, p.commit(1, 0, value), p.commit(0, 0, value)))
		proofIs(t, s, slot, p.commits(0, value, 0, 1, 3))
	}
	logIs(t, s, "a", "b", "c")
	// What the Round does not believe changes nothing.
	p = p.at(3)
	bad := p.decision(0, "d")
	bad.Tag[0]++
	sent(t, takes(s, bad, p.sealed(noise(3)), p.decide(0, "d", p.commits(0, "d", 0, 1)...), p.decide(0, "d", p.commits(0, "e", 0, 1, 2)...)))
	logIs(t, s, "a", "b", "c")
}

// TestTakeOfASlotBelow: who proposes or tells a lock there is told what was decided, and nobody else is (P9.1).
func TestTakeOfASlotBelow(t *testing.T) {
	p := of(4)
	s := p.seq(2)
	values := []string{"a", "", longest, "d"}
	follows(s, p, 0, values...)
	logIs(t, s, values...)
	for slot, value := range values {
		p := p.at(slot)
		for _, from := range []int{0, 1, 3} {
			want := to(from, p.decide(2, value, p.commits(0, value, 0, 1, 2)...))
			for view := range api.MaxView + 1 {
				sent(t, s.Take(p.status(from, view, "y")), want)
				m := p.propose(view, "y", p.prepares(0, "z", 1)...)
				m.From = from // whether it leads there is not asked
				sent(t, s.Take(p.sealed(m)), want)
				sent(t, s.Take(to(9, p.sealed(m))), want)
			}
		}
	}
	logIs(t, s, values...)
	sent(t, s.Take(p.at(4).status(0, 1, "")))
}

// TestWhatALateNodeIsToldItBelieves: it goes on by that (P9.1, P9.2).
func TestWhatALateNodeIsToldItBelieves(t *testing.T) {
	p := of(4)
	s, late := p.seq(1), p.seq(3)
	// Decided in a later view, by votes in no order, more than enough, of which one does not count.
	why := append(p.commits(5, "x", 3, 0, 1, 2), p.at(9).commits(5, "x", 1)...)
	s.Take(p.decide(0, "x", why...))
	proofIs(t, s, 0, why)
	l := s.Take(late.Tick()[0])
	sent(t, l, to(3, p.decide(1, "x", why...)))
	if len(l) == 1 && l[0].View != 0 {
		t.Error("View", l[0].View)
	}
	sent(t, takes(late, l...))
	logIs(t, late, "x")
	proofIs(t, late, 0, why)
}

// asksBelow are messages of slot 0 for which node 2 of four, which is beyond it, has an answer.
func asksBelow(p place) []api.Msg {
	return []api.Msg{p.propose(0, "y"), p.propose(1, "y", p.prepares(0, "z", 1)...), p.status(0, 1, ""), p.status(3, 2, "y", p.prepares(0, "y", 0, 1, 3)...)}
}

// TestTakeOfASlotBelowThatIsNotSealed: by another, by another ring, a turned byte, of another Body (P9.1).
func TestTakeOfASlotBelowThatIsNotSealed(t *testing.T) {
	p, stranger := of(4), seal.New(4, otherSeed)
	s := p.seq(2)
	follows(s, p, 0, "a", "b")
	for _, good := range asksBelow(p) {
		sent(t, s.Take(good), to(good.From, p.decide(2, "a", p.commits(0, "a", 0, 1, 2)...)))
		tags := []api.Hash{{}, stranger.Seal(good.From, wire.Body(good)), p.ring.Seal(good.From, nil), p.ring.Seal(good.From, good.Value)}
		for node := range 4 {
			if node != good.From {
				tags = append(tags, p.ring.Seal(node, wire.Body(good)))
			}
		}
		for at := range good.Tag {
			tag := good.Tag
			tag[at] ^= 1 << (at % 8)
			tags = append(tags, tag)
		}
		for _, tag := range tags {
			m := good
			m.Tag = tag
			sent(t, s.Take(m))
		}
		for _, change := range []func(*api.Msg){
			func(m *api.Msg) { m.Value = append(slices.Clone(m.Value), '!') },
			func(m *api.Msg) { m.View++ },
			func(m *api.Msg) { m.Slot++ },
			func(m *api.Msg) { m.From = (m.From + 1) % 4 },
			func(m *api.Msg) { m.Kind = api.MsgPropose + api.MsgStatus - m.Kind },
			func(m *api.Msg) { m.Votes = append(slices.Clone(m.Votes), p.prepares(0, "x", 1)...) },
		} {
			m := good
			change(&m)
			sent(t, s.Take(m))
		}
	}
}

// TestTakeOfASlotBelowFromNoNodeAndFromMe (P9.1).
func TestTakeOfASlotBelowFromNoNodeAndFromMe(t *testing.T) {
	p, more := of(4), of(10)
	s := p.seq(2)
	follows(s, p, 0, "a", "b")
	for _, good := range asksBelow(p) {
		for _, from := range []int{2, -1, 4, 5, 9, 10, 3 + 1<<32, math.MinInt, math.MaxInt} {
			m := good
			m.From = from
			sent(t, s.Take(p.sealed(m))) // of no node these are noughts
			sent(t, s.Take(more.sealed(m)))
		}
	}
	// One of me is a message as any other where I am another one.
	other := p.seq(3)
	follows(other, p, 0, "a", "b")
	mine := p.status(2, 1, "")
	sent(t, s.Take(mine))
	sent(t, other.Take(mine), to(2, p.decide(3, "a", p.commits(0, "a", 0, 1, 2)...)))
}

// TestTakeOfASlotBelowOfOtherKinds (P9.1).
func TestTakeOfASlotBelowOfOtherKinds(t *testing.T) {
	p := of(4)
	s := p.seq(2)
	follows(s, p, 0, "a", "b")
	was := toldSeq(s)
	for _, good := range asksBelow(p) {
		for _, kind := range []int{0, api.MsgVote, api.MsgDecide, api.MsgMark, 7, -2, -4, 2 + 1<<32, math.MinInt, math.MaxInt} {
			m := good
			m.Kind = kind
			sent(t, s.Take(m))
			sent(t, s.Take(p.sealed(m)))
		}
	}
	sent(t, takes(s, p.decision(0, "a"), p.decision(0, "z"), p.commit(3, 0, "a"), p.prepare(1, 0, "a")))
	if got := toldSeq(s); got != was {
		t.Errorf("%s\nwas\n%s", got, was)
	}
}

// TestTakeOfASlotBelowAsksForTheSealAlone: P9.1 names nothing else, so that also one that may not be sent is answered.
func TestTakeOfASlotBelowAsksForTheSealAlone(t *testing.T) {
	p := of(4)
	s := p.seq(2)
	follows(s, p, 0, "a", "b")
	for _, good := range asksBelow(p) {
		for _, change := range []func(*api.Msg){
			func(m *api.Msg) { m.To = -1 },
			func(m *api.Msg) { m.View = -1 },
			func(m *api.Msg) { m.View = math.MaxInt },
			func(m *api.Msg) { m.Value = make([]byte, api.MaxValue+1) },
			func(m *api.Msg) { m.Votes = make([]api.Vote, 11) },
			func(m *api.Msg) { m.Votes = []api.Vote{{Kind: -1, Slot: math.MinInt}} },
		} {
			m := good
			change(&m)
			sent(t, s.Take(p.sealed(m)), to(m.From, p.decide(2, "a", p.commits(0, "a", 0, 1, 2)...)))
		}
	}
}

// TestTakeOfSlotsThatAreNone: below 0, far above, and when the log has MaxSlots (P9.1, W1).
func TestTakeOfSlotsThatAreNone(t *testing.T) {
	p := of(4)
	none := []int{-1, -4, -64, math.MinInt, math.MinInt + 1, -1 << 32, 1 << 32, 1<<32 + 1, math.MaxInt - 4, math.MaxInt}
	nearly, fresh := p.seq(2), p.seq(2)
	follows(nearly, p, 0, some(api.MaxSlots-1)...)
	whole, all := full(p, 2)
	for _, s := range []*seq.Seq{fresh, nearly, whole} {
		was := toldSeq(s)
		for _, slot := range append(none, 64, 65, 66, 67, 68, 69, 128) {
			q := p.at(slot)
			for _, m := range []api.Msg{q.status(0, 1, ""), q.decision(0, "x"), q.prepare(0, 0, "x"), q.commit(1, 0, "x"), noise(slot)} {
				sent(t, s.Take(m))
			}
			for _, kind := range []int{api.MsgPropose, api.MsgStatus, api.MsgDecide} {
				sent(t, s.Take(p.sealed(api.Msg{Kind: kind, From: 3, Slot: slot, Value: []byte("x")})))
			}
		}
		if got := toldSeq(s); got != was {
			t.Errorf("%s\nwas\n%s", got, was)
		}
	}
	for slot := range api.MaxSlots {
		q := p.at(slot)
		sent(t, whole.Take(q.status(3, 1, "")), to(3, q.decide(2, all[slot], q.commits(0, all[slot], 0, 1, 2)...)))
	}
	sent(t, whole.Tick())
}
