package round_test

import (
	"testing"

	"seneschal/api"
	"seneschal/round"
)

// oneShort is node 3 of four with x proposed in view 0, and a vote too few to commit, or to decide, it.
func oneShort(p place, kind int) *round.Round {
	x := p.round(3)
	takes(x, p.propose(0, 0, "x"), p.prepare(0, 0, "x"))
	if kind == api.VoteCommit {
		takes(x, p.prepare(1, 0, "x"), p.commit(0, 0, "x"))
	}
	return x
}

// enoughNow tells whether the vote that was missing has come.
func enoughNow(x *round.Round, kind int) bool {
	_, _, done := x.Decided()
	return done || kind == api.VotePrepare && x.Lock().View == 0
}

// votesCount: whether a message from another node is the vote that was missing.
func votesCount(t *testing.T, p place, kind int, m api.Msg, want bool) {
	t.Helper()
	x := oneShort(p, kind)
	if enoughNow(x, kind) {
		t.Fatal("too early")
	}
	got := x.Take(m)
	if enoughNow(x, kind) != want {
		t.Errorf("kind %d: counts: %v: %s", kind, !want, told([]api.Msg{m}))
	}
	if !want {
		sent(t, got)
	}
}

var voteKinds = []int{api.VotePrepare, api.VoteCommit}

func TestVotesOfEachKind(t *testing.T) {
	p := of(4)
	for _, kind := range voteKinds {
		for _, said := range []int{api.VotePrepare, api.VoteCommit, api.VoteMark} {
			votesCount(t, p, kind, p.says(2, 0, p.votes(said, 0, "x", 2)...), said == kind)
		}
	}
}

func TestVotesThatDoNotCount(t *testing.T) {
	p, q, stranger := of(4), place{of(4).ring, 8}, of(4)
	stranger.ring = of(7).ring // its first four keys are the same ones
	for _, kind := range voteKinds {
		good := p.votes(kind, 0, "x", 2)[0]
		votesCount(t, p, kind, p.says(2, 0, good), true)
		votesCount(t, p, kind, p.says(2, 0, stranger.votes(kind, 0, "x", 2)...), true)
		// Another slot, another node, another view, another value, no vote at all.
		votesCount(t, p, kind, p.says(2, 0, q.votes(kind, 0, "x", 2)...), false)
		votesCount(t, p, kind, p.says(2, 0, p.votes(kind, 0, "x", 1)...), false)
		votesCount(t, p, kind, p.says(1, 0, good), false)
		votesCount(t, p, kind, p.says(2, 0, p.votes(kind, 0, "x", 3)...), false)
		votesCount(t, p, kind, p.says(2, 0, p.votes(kind, 1, "x", 2)...), false)
		votesCount(t, p, kind, p.says(2, 0, p.votes(kind, 0, "y", 2)...), false)
		votesCount(t, p, kind, p.says(2, 0), false)
		// A slot that is told otherwise than it was sealed.
		wrong := q.votes(kind, 0, "x", 2)[0]
		wrong.Slot = p.slot
		votesCount(t, p, kind, p.says(2, 0, wrong), false)
	}
}

func TestVotesThatAreNotGood(t *testing.T) {
	p := of(4)
	for _, kind := range voteKinds {
		good := p.votes(kind, 0, "x", 2)[0]
		for at := range good.Tag {
			bad := good
			bad.Tag[at] ^= 0x10
			votesCount(t, p, kind, p.says(2, 0, bad), false)
		}
		bad := good
		bad.Tag = p.votes(kind, 0, "x", 1)[0].Tag
		votesCount(t, p, kind, p.says(2, 0, bad), false)
		bad.Tag = api.Hash{}
		votesCount(t, p, kind, p.says(2, 0, bad), false)
		// A vote that is not Good does not stand in the way of the one that is.
		x := oneShort(p, kind)
		takes(x, p.says(2, 0, bad), p.says(2, 0, good))
		if !enoughNow(x, kind) {
			t.Error("the Good one does not count")
		}
	}
}

// TestTheFirstVoteOfAMessageCounts: and no other one of it (P8.1).
func TestTheFirstVoteOfAMessageCounts(t *testing.T) {
	p := of(4)
	for _, kind := range voteKinds {
		good, other := p.votes(kind, 0, "x", 2)[0], p.votes(kind, 0, "y", 2)[0]
		votesCount(t, p, kind, p.says(2, 0, good, other), true)
		votesCount(t, p, kind, p.says(2, 0, good, p.votes(kind, 0, "x", 1)[0], api.Vote{Kind: 1}), true)
		votesCount(t, p, kind, p.says(2, 0, other, good), false)
		votesCount(t, p, kind, p.says(2, 0, api.Vote{Kind: kind, Slot: p.slot, From: 2}, good), false)
		votesCount(t, p, kind, p.says(2, 0, p.votes(api.VoteMark, 0, "x", 2)[0], good), false)
		votesCount(t, p, kind, p.says(0, 0, p.votes(kind, 0, "x", 0)[0], good), false)
	}
}

// TestWhatElseAVotesMessageSaysIsNotAsked: its View and its Value (P8.1).
func TestWhatElseAVotesMessageSaysIsNotAsked(t *testing.T) {
	p := of(4)
	for _, kind := range voteKinds {
		for view := range api.MaxView + 1 {
			m := p.says(2, view, p.votes(kind, 0, "x", 2)...)
			votesCount(t, p, kind, m, true)
			m.Value = []byte("another")
			votesCount(t, p, kind, p.sealed(m), true)
		}
	}
}

// TestANodeCountsOnce: twice the same vote is one; votes of one node on two sums are one on each (P8.1).
func TestANodeCountsOnce(t *testing.T) {
	p := of(4)
	for _, kind := range voteKinds {
		x := oneShort(p, kind)
		again := p.says(0, 0, p.votes(kind, 0, "x", 0)...)
		sent(t, takes(x, again, again, p.says(0, 7, p.votes(kind, 0, "x", 0)...)))
		if enoughNow(x, kind) {
			t.Error("one node counts twice")
		}
		// Node 2 has voted for another value; its vote for this one counts no less.
		sent(t, takes(x, p.says(2, 0, p.votes(kind, 0, "y", 2)...), p.says(2, 0, p.votes(kind, 1, "x", 2)...)))
		x.Take(p.says(2, 0, p.votes(kind, 0, "x", 2)...))
		if !enoughNow(x, kind) {
			t.Error("a vote on another sum stands in the way")
		}
	}
	// Both votes of node 2 count, each on its sum.
	x := p.round(3)
	for _, from := range []int{0, 1, 2} {
		takes(x, p.commit(from, 0, "a"), p.commit(from, 0, "b"))
	}
	x.Take(p.propose(1, 1, "b"))
	decided(t, x, "b", p.commits(0, "b", 0, 1, 2))
}

// TestStatusesCountWhereILead: in each view, of each number of nodes (P8.1, P8.2).
func TestStatusesCountWhereILead(t *testing.T) {
	for count := 2; count <= api.MaxNodes; count++ {
		p := of(count)
		for view := 1; view <= api.MaxView; view++ {
			for _, me := range []int{p.leader(view), p.leader(view + 1)} {
				x := p.round(me)
				x.Want([]byte("w"))
				ticked(x, view)
				got := 0
				for _, from := range p.others(me) {
					got += len(x.Take(p.status(from, view, "")))
				}
				if (got > 0) != (me == p.leader(view)) {
					t.Errorf("%d nodes, view %d: node %d of leader %d sends %d", count, view, me, p.leader(view), got)
				}
			}
		}
	}
}

// TestStatusesOfAViewWhereIDoNotLead do not count, not even for the views where I do (P8.1).
func TestStatusesOfAViewWhereIDoNotLead(t *testing.T) {
	p := of(4)
	x := p.round(2)
	x.Want([]byte("w"))
	for _, view := range []int{0, 1, 3, 4, 5, 6, 7, 8} {
		for _, from := range []int{0, 1, 3} {
			sent(t, x.Take(p.status(from, view, "")))
		}
	}
	sent(t, x.Tick(), to(1, p.status(2, 1, "")))
	sent(t, x.Tick())
	sent(t, x.Take(p.status(0, 2, "")))
	sent(t, x.Take(p.status(1, 2, "")), p.toAll(p.propose(2, 2, "w"), p.prepare(2, 2, "w"))...)
}

// TestTheFirstStatusOfANodeCounts: once, and with what it said first (P8.1).
func TestTheFirstStatusOfANodeCounts(t *testing.T) {
	p := of(4)
	lock := p.prepares(0, "x", 0, 2, 3)
	x := p.round(1)
	x.Want([]byte("w"))
	x.Tick()
	sent(t, takes(x, p.status(2, 1, ""), p.status(2, 1, ""), p.status(2, 1, "x", lock...)))
	sent(t, x.Take(p.status(3, 1, "")), p.toAll(p.propose(1, 1, "w"), p.prepare(1, 1, "w"))...)

	x = p.round(1)
	x.Tick()
	sent(t, takes(x, p.status(2, 1, "x", lock...), p.status(2, 1, "")))
	sent(t, x.Take(p.status(3, 1, "")), p.toAll(p.propose(1, 1, "x", lock...), p.prepare(1, 1, "x"))...)
}

// TestStatusesAheadOfTheirView count when it comes (P8.1).
func TestStatusesAheadOfTheirView(t *testing.T) {
	p := of(4)
	x := p.round(1)
	x.Want([]byte("w"))
	sent(t, takes(x, p.status(0, 5, ""), p.status(3, 5, ""), p.status(2, 1, ""), p.status(3, 1, "")))
	sent(t, x.Tick(), p.toAll(p.propose(1, 1, "w"), p.prepare(1, 1, "w"))...)
	ticked(x, 3)
	sent(t, x.Tick(), p.toAll(p.propose(1, 5, "w"), p.prepare(1, 5, "w"))...)
}

// TestDecisionsOfOthers: of each number of nodes and each view, by Quorum commits and by one fewer (P8.1).
func TestDecisionsOfOthers(t *testing.T) {
	for count := 2; count <= api.MaxNodes; count++ {
		p := of(count)
		for view := range api.MaxView + 1 {
			x := p.round(1)
			ticked(x, view/2)
			was := x.View()
			sent(t, x.Take(p.decide(0, "x", p.commits(view, "x", nodes(0, p.quorum()-1)...)...)))
			undecided(t, x)
			enough := p.commits(view, "x", nodes(count-p.quorum(), count)...)
			sent(t, x.Take(p.decide(0, "x", enough...)))
			decided(t, x, "x", enough)
			free(t, x)
			viewIs(t, x, was)
		}
	}
}

// notDecidedBy: a row of votes decides nothing, whatever message it is in.
func notDecidedBy(t *testing.T, p place, value string, why ...api.Vote) {
	t.Helper()
	x := p.round(2)
	sent(t, x.Take(p.decide(1, value, why...)))
	undecided(t, x)
}

func TestDecisionsThatAreNone(t *testing.T) {
	p := of(4)
	all := []int{0, 1, 2, 3}
	notDecidedBy(t, p, "x")
	notDecidedBy(t, p, "")
	notDecidedBy(t, p, "x", p.commits(0, "x", 0, 1)...)
	notDecidedBy(t, p, "x", p.commits(0, "x", 0, 1, 1, 0, 1, 0)...)
	notDecidedBy(t, p, "x", p.prepares(0, "x", all...)...)
	notDecidedBy(t, p, "x", p.votes(api.VoteMark, 0, "x", all...)...)
	notDecidedBy(t, p, "x", p.commits(0, "y", all...)...)
	notDecidedBy(t, p, "", p.commits(0, "y", all...)...)
	notDecidedBy(t, p, "x", place{p.ring, 5}.commits(0, "x", all...)...)
	notDecidedBy(t, p, "x", append(p.commits(0, "x", 0, 1), p.commits(1, "x", 2, 3)...)...)
	// The first vote names the view: of another one, the rest does not count.
	notDecidedBy(t, p, "x", append(p.commits(1, "x", 0), p.commits(0, "x", 1, 2, 3)...)...)
	notDecidedBy(t, p, "x", append([]api.Vote{{Kind: 2, Slot: 4, View: 1}}, p.commits(0, "x", all...)...)...)
	bad := p.commits(0, "x", all...)
	bad[1].Tag[0]++
	bad[2].Tag[31]++
	notDecidedBy(t, p, "x", bad...)
}

// TestDecisionsAreKeptWithTheirVotesAsTheyCame: those too that do not count (P8.1).
func TestDecisionsAreKeptWithTheirVotesAsTheyCame(t *testing.T) {
	p := of(4)
	for _, why := range [][]api.Vote{
		p.commits(6, "x", 3, 1, 0),
		p.commits(6, "x", 3, 1, 0, 2, 1, 1),
		append(p.prepares(6, "x", 0), p.commits(6, "x", 1, 2, 3)...),
		append(p.commits(6, "y", 0), p.commits(6, "x", 1, 2, 3)...),
		append(append(p.commits(6, "x", 0), p.commits(1, "x", 1)...), p.commits(6, "x", 2, 3)...),
	} {
		x := p.round(2)
		x.Want([]byte("w"))
		m := p.decide(1, "x", why...)
		m.View = 3 // the message's View is not asked for
		sent(t, x.Take(p.sealed(m)))
		decided(t, x, "x", why)
	}
	x := p.round(2)
	x.Take(p.decide(3, "", p.commits(0, "", 0, 1, 2)...))
	decided(t, x, "", p.commits(0, "", 0, 1, 2))
}

// TestADecisionOfOthersEndsAll: whatever is known, wanted and locked, nothing more is sent (P8.1, P8.2).
func TestADecisionOfOthersEndsAll(t *testing.T) {
	p := of(4)
	x := p.round(0)
	takes(x, p.prepare(1, 0, "x"), p.prepare(2, 0, "x"), p.prepare(3, 0, "x"))
	sent(t, x.Take(p.decide(1, "y", p.commits(2, "y", 1, 2, 3)...)))
	decided(t, x, "y", p.commits(2, "y", 1, 2, 3))
	sent(t, x.Want([]byte("x")))
	sent(t, x.Tick())
	viewIs(t, x, 0)
	free(t, x)
}
