package round_test

import (
	"bytes"
	"slices"
	"strings"
	"testing"

	"seneschal/api"
	"seneschal/round"
	"seneschal/seal"
	"seneschal/wire"
)

// trace leads node 2 of four through a row of calls in which every message that would have counted earlier is seen, and tells all that is sent and known.
func trace(p place, x *round.Round) string {
	var s strings.Builder
	see := func(l []api.Msg) { s.WriteString(told(l) + toldRound(x) + "\n") }
	for _, m := range []api.Msg{
		p.propose(0, 0, "x"), p.prepare(3, 0, "x"), p.prepare(1, 0, "x"), p.commit(3, 0, "x"),
	} {
		see(x.Take(m))
	}
	see(x.Tick())
	see(x.Take(p.propose(1, 1, "x")))
	see(x.Tick())
	for _, m := range []api.Msg{p.status(3, 2, "x", p.prepares(1, "x", 0, 1, 3)...), p.status(1, 2, ""), p.status(0, 2, "")} {
		see(x.Take(m))
	}
	for from := range 2 {
		see(x.Take(p.prepare(from, 2, "x")))
	}
	for _, from := range []int{3, 1} {
		see(x.Take(p.commit(from, 2, "x")))
	}
	return s.String()
}

// countingMsgs are messages, one of each kind that counts, that node 2 of four takes into account.
func countingMsgs(p place) []api.Msg {
	return []api.Msg{
		p.propose(0, 0, "g"), p.propose(1, 1, "g", p.prepares(0, "g", 0, 1, 3)...), p.prepare(1, 0, "x"), p.commit(1, 0, "x"),
		p.status(1, 2, "g", p.prepares(0, "g", 0, 1, 3)...), p.decide(1, "g", p.commits(5, "g", 0, 1, 3)...),
	}
}

// noTrace: the message is answered nothing, and nobody can tell later that it came.
func noTrace(t *testing.T, p place, m api.Msg) {
	t.Helper()
	x := p.round(2)
	sent(t, x.Take(m))
	if trace(p, x) != trace(p, p.round(2)) {
		t.Errorf("it counts: %s", told([]api.Msg{m}))
	}
}

// leavesTrace: the message counts.
func leavesTrace(t *testing.T, p place, m api.Msg) {
	t.Helper()
	x := p.round(2)
	l := x.Take(m)
	if len(l) == 0 && trace(p, x) == trace(p, p.round(2)) {
		t.Errorf("it does not count: %s", told([]api.Msg{m}))
	}
}

func TestWhatCounts(t *testing.T) {
	p := of(4)
	for _, m := range countingMsgs(p) {
		leavesTrace(t, p, m)
		// To whom it goes is neither sealed nor asked for, as long as it may be.
		for _, node := range []int{0, 2, 3, 4, 9} {
			leavesTrace(t, p, to(node, m))
		}
	}
}

// TestTakeOfWhatMayNotBe: every way to be beyond the bounds of chapter 5, sealed by its sender as it is (P8.1).
func TestTakeOfWhatMayNotBe(t *testing.T) {
	p := of(4)
	changes := []func(*api.Msg){
		func(m *api.Msg) { m.To = -1 },
		func(m *api.Msg) { m.To = api.MaxNodes },
		func(m *api.Msg) { m.View = -1 },
		func(m *api.Msg) { m.View += 1 << 32 },
		func(m *api.Msg) { m.View = api.MaxView + 1 },
		func(m *api.Msg) { m.Kind = 0 },
		func(m *api.Msg) { m.Kind = 7 },
		func(m *api.Msg) { m.Kind = -m.Kind },
		func(m *api.Msg) { m.Value = make([]byte, api.MaxValue+1) },
		func(m *api.Msg) { m.Votes = append(m.Votes, p.commits(0, "x", nodes(0, 11)...)...) },
	}
	for _, bad := range []api.Vote{{}, {Kind: 4}, {Kind: -1}, {Kind: 1, Slot: -1}, {Kind: 1, Slot: 64}, {Kind: 1, View: -1}, {Kind: 1, View: 9}, {Kind: 1, From: -1}, {Kind: 1, From: 10}} {
		changes = append(changes, func(m *api.Msg) { m.Votes = append(slices.Clone(m.Votes), bad) })
	}
	for _, good := range countingMsgs(p) {
		for _, change := range changes {
			m := good
			change(&m)
			noTrace(t, p, m)
			noTrace(t, p, p.sealed(m))
		}
	}
}

// TestTakeAtTheEdgesOfWhatMayBe: the greatest value, the most votes, the last view (P8.1).
func TestTakeAtTheEdgesOfWhatMayBe(t *testing.T) {
	p := of(4)
	long := strings.Repeat("v", api.MaxValue)
	x := p.round(3)
	sent(t, x.Take(p.propose(0, 0, long, p.commits(8, "z", nodes(0, 10)...)...)), p.toAll(p.prepare(3, 0, long))...)
	x = p.round(3)
	sent(t, x.Take(p.propose(0, 8, long)))
	takes(x, p.commit(0, 8, long), p.commit(1, 8, long), p.commit(2, 8, long))
	decided(t, x, long, p.commits(8, long, 0, 1, 2))
	x = p.round(3)
	longer := long + "v"
	sent(t, takes(x, p.propose(0, 0, longer), p.prepare(0, 0, longer), p.prepare(1, 0, longer), p.prepare(2, 0, longer)))
	free(t, x)
}

func TestTakeOfAnotherSlot(t *testing.T) {
	p := of(4)
	for _, good := range countingMsgs(p) {
		for _, slot := range []int{0, 3, 5, 8, 63, 64, -1, -4, 4 + 1<<32} {
			m := good
			m.Slot = slot
			noTrace(t, p, m)
			noTrace(t, p, p.sealed(m))
		}
	}
	// All of it is of another slot, the votes too; of that slot's own round it counts.
	for _, slot := range []int{0, 8, 60} {
		other := place{p.ring, slot}
		for _, m := range countingMsgs(other) {
			noTrace(t, p, m)
			leavesTrace(t, other, m)
		}
	}
}

func TestTakeFromNoNodeAndFromMe(t *testing.T) {
	p, more := of(4), of(10)
	for _, good := range countingMsgs(p) {
		for _, from := range []int{-1, 4, 5, 8, 9, 10, 1 << 32, 2} {
			m := good
			m.From = from
			if len(m.Votes) == 1 {
				m.Votes = more.votes(m.Votes[0].Kind, m.Votes[0].View, "x", from)
			}
			noTrace(t, p, m)
			noTrace(t, p, p.sealed(m)) // of no node these are noughts
			noTrace(t, p, more.sealed(m))
		}
	}
	// What I would say myself does not count when it comes from outside, where I lead and where I do not.
	noTrace(t, p, p.propose(2, 2, "g"))
	noTrace(t, p, p.prepare(2, 0, "x"))
	noTrace(t, p, p.commit(2, 0, "x"))
	noTrace(t, p, p.status(2, 2, "g", p.prepares(0, "g", 0, 1, 3)...))
	noTrace(t, p, p.decide(2, "g", p.commits(0, "g", 0, 1, 3)...))
}

// TestTakeOfWrongSeals: another node's, a turned byte, that of another Body (P8.1).
func TestTakeOfWrongSeals(t *testing.T) {
	p, stranger := of(4), seal.New(4, otherSeed)
	for _, good := range countingMsgs(p) {
		for at := range good.Tag {
			m := good
			m.Tag[at] ^= 1 << (at % 8)
			noTrace(t, p, m)
		}
		for _, tag := range []api.Hash{{}, stranger.Seal(good.From, wire.Body(good)), p.ring.Seal(2, wire.Body(good)), p.ring.Seal(3, wire.Body(good)), p.ring.Seal(good.From, nil)} {
			m := good
			m.Tag = tag
			noTrace(t, p, m)
		}
		for _, change := range []func(*api.Msg){
			func(m *api.Msg) { m.Value = append(bytes.Clone(m.Value), '!') },
			func(m *api.Msg) { m.View++ },
			func(m *api.Msg) { m.From = 3 },
			func(m *api.Msg) { m.Kind = m.Kind%5 + 1 },
			func(m *api.Msg) { m.Votes = append(slices.Clone(m.Votes), p.prepares(0, "x", 1)...) },
		} {
			m := good
			change(&m)
			noTrace(t, p, m)
		}
	}
}

func TestTakeOfOtherKinds(t *testing.T) {
	p := of(4)
	for _, kind := range []int{api.MsgRequest, api.MsgMark} {
		for _, good := range countingMsgs(p) {
			m := good
			m.Kind = kind
			noTrace(t, p, p.sealed(m))
		}
	}
}

// TestTakeOnceAllIsDecided: by votes, or by what others decided; nothing counts any more (P8.1).
func TestTakeOnceAllIsDecided(t *testing.T) {
	p := of(4)
	byVotes, byOthers := p.round(2), p.round(2)
	takes(byVotes, p.propose(0, 0, "x"), p.prepare(0, 0, "x"), p.prepare(1, 0, "x"), p.commit(0, 0, "x"), p.commit(1, 0, "x"))
	decided(t, byVotes, "x", p.commits(0, "x", 0, 1, 2))
	takes(byOthers, p.decide(1, "x", p.commits(3, "x", 3, 1, 0)...))
	decided(t, byOthers, "x", p.commits(3, "x", 3, 1, 0))
	for _, x := range []*round.Round{byVotes, byOthers} {
		was := toldRound(x)
		for _, m := range append(countingMsgs(p), p.commit(3, 0, "x"), p.commit(3, 3, "x"), p.decide(3, "y", p.commits(0, "y", 0, 1, 3)...), p.decide(3, "x", p.commits(1, "x", 0, 1, 3)...)) {
			sent(t, x.Take(m))
		}
		trace(p, x)
		if got := toldRound(x); got != was {
			t.Errorf("%s\nwas\n%s", got, was)
		}
	}
}

// TestProposalsCountFromTheLeaderAlone: of each number of nodes, in each view that is mine (P8.1).
func TestProposalsCountFromTheLeaderAlone(t *testing.T) {
	for count := 2; count <= api.MaxNodes; count++ {
		p := of(count)
		for view := range api.MaxView + 1 {
			for from := range count {
				me := (from + 1) % count
				x := p.round(me)
				ticked(x, view)
				got := x.Take(p.propose(from, view, "x"))
				if from == p.leader(view) && (len(got) == 0 || got[0].Kind != api.MsgVote) {
					t.Errorf("%d nodes, view %d: what its leader %d says does not count", count, view, from)
				}
				if from != p.leader(view) && len(got) != 0 {
					t.Errorf("%d nodes, view %d: node %d does not lead: %s", count, view, from, told(got))
				}
			}
		}
	}
}

// TestTheFirstProposalOfAViewCounts: the second neither is prepared nor makes a value known (P8.1).
func TestTheFirstProposalOfAViewCounts(t *testing.T) {
	p := of(4)
	x := p.round(3)
	sent(t, x.Take(p.propose(0, 0, "x")), p.toAll(p.prepare(3, 0, "x"))...)
	sent(t, takes(x, p.propose(0, 0, "y"), p.propose(0, 0, "x"), p.prepare(0, 0, "y"), p.prepare(1, 0, "y"), p.prepare(2, 0, "y")))
	sent(t, takes(x, p.commit(0, 0, "y"), p.commit(1, 0, "y"), p.commit(2, 0, "y")))
	undecided(t, x)
	free(t, x)
	// Of another view it is a first one, and known from there on: what was voted for counts.
	sent(t, x.Take(p.propose(1, 1, "y")))
	decided(t, x, "y", p.commits(0, "y", 0, 1, 2))

	x = p.round(3)
	takes(x, p.propose(1, 1, "first"), p.propose(1, 1, "second"))
	sent(t, x.Tick(), append([]api.Msg{to(1, p.status(3, 1, ""))}, p.toAll(p.prepare(3, 1, "first"))...)...)
}

// TestProposalsOfViewsThatAreNotMine: one above is prepared when its view comes, one below never, and both values are known (P8.1, P8.2).
func TestProposalsOfViewsThatAreNotMine(t *testing.T) {
	p := of(4)
	x := p.round(3)
	ticked(x, 1)
	sent(t, x.Take(p.propose(0, 0, "below")))
	sent(t, x.Take(p.propose(2, 2, "above")))
	takes(x, p.prepare(0, 1, "above"), p.prepare(1, 1, "above"))
	sent(t, x.Take(p.prepare(2, 1, "above")), p.toAll(p.commit(3, 1, "above"))...)
	locked(t, x, 1, "above", p.prepares(1, "above", 0, 1, 2))
	sent(t, x.Tick(), append([]api.Msg{to(2, p.status(3, 2, "above", p.prepares(1, "above", 0, 1, 2)...))}, p.toAll(p.prepare(3, 2, "above"))...)...)
	takes(x, p.commit(0, 7, "below"), p.commit(1, 7, "below"), p.commit(2, 7, "below"))
	decided(t, x, "below", p.commits(7, "below", 0, 1, 2))
}

func TestProposalsOfAnEmptyValue(t *testing.T) {
	p := of(4)
	x := p.round(3)
	sent(t, x.Take(p.propose(0, 0, "")), p.toAll(p.prepare(3, 0, ""))...)
	takes(x, p.prepare(0, 0, ""), p.prepare(1, 0, ""))
	locked(t, x, 0, "", p.prepares(0, "", 0, 1, 3))
	takes(x, p.commit(0, 0, ""), p.commit(1, 0, ""))
	decided(t, x, "", p.commits(0, "", 0, 1, 3))
}
