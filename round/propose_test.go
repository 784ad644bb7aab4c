package round_test

import (
	"testing"

	"seneschal/api"
	"seneschal/round"
)

// TestProposeInViewNought: who leads proposes what it wants, once (P8.2, step 4).
func TestProposeInViewNought(t *testing.T) {
	for count := 2; count <= api.MaxNodes; count++ {
		p := of(count)
		for me := range count {
			x := p.round(me)
			got := x.Want([]byte("x"))
			if me != p.leader(0) {
				sent(t, got)
				continue
			}
			sent(t, got, p.toAll(p.propose(me, 0, "x"), p.prepare(me, 0, "x"))...)
			sent(t, x.Want([]byte("y")))
		}
	}
}

// TestProposeInViewNoughtNeedsNoStatus, and does not ask for any (P8.2, step 4).
func TestProposeInViewNoughtNeedsNoStatus(t *testing.T) {
	p := of(4)
	x := p.round(0)
	lock := p.prepares(0, "l", 1, 2, 3)
	sent(t, takes(x, p.status(1, 0, "l", lock...), p.status(2, 0, "l", lock...), p.status(3, 0, "l", lock...)))
	sent(t, x.Want([]byte("x")), p.toAll(p.propose(0, 0, "x"), p.prepare(0, 0, "x"))...)
}

// leadsWith is who leads view 3 of four, itself not locked, and takes these statuses there; told is what it sends by the last of them.
func leadsWith(p place, wanted string, l ...api.Msg) (*round.Round, []api.Msg) {
	x := p.round(3)
	x.Want([]byte(wanted))
	ticked(x, 3)
	return x, takes(x, l...)
}

// TestProposeTheHighestLockOfAll: by what is proved, wherever it stands, whatever is wanted (P8.2, step 4).
func TestProposeTheHighestLockOfAll(t *testing.T) {
	p := of(4)
	at := func(view int, value string) []api.Vote { return p.prepares(view, value, 0, 1, 2) }
	for _, wanted := range []string{"", "w"} {
		for _, c := range []struct {
			statuses []api.Msg
			value    string
			votes    []api.Vote
		}{
			{[]api.Msg{p.status(0, 3, "a", at(0, "a")...), p.status(1, 3, "b", at(1, "b")...)}, "b", at(1, "b")},
			{[]api.Msg{p.status(0, 3, "a", at(1, "a")...), p.status(1, 3, "b", at(0, "b")...)}, "a", at(1, "a")},
			{[]api.Msg{p.status(1, 3, "a", at(2, "a")...), p.status(0, 3, "b", at(1, "b")...)}, "a", at(2, "a")},
			{[]api.Msg{p.status(2, 3, ""), p.status(0, 3, "b", at(0, "b")...)}, "b", at(0, "b")},
			// Of alike views that of the least node, in whatever order they came.
			{[]api.Msg{p.status(2, 3, "a", at(1, "a")...), p.status(0, 3, "b", at(1, "b")...)}, "b", at(1, "b")},
			{[]api.Msg{p.status(0, 3, "b", at(1, "b")...), p.status(2, 3, "a", at(1, "a")...)}, "b", at(1, "b")},
			// All votes of the lock are told on, those too that do not count, in their order.
			{[]api.Msg{p.status(0, 3, ""), p.status(1, 3, "a", append(p.prepares(2, "a", 3, 2, 1), p.commits(5, "z", 0)...)...)}, "a", append(p.prepares(2, "a", 3, 2, 1), p.commits(5, "z", 0)...)},
			// A lock on the empty value is one.
			{[]api.Msg{p.status(0, 3, ""), p.status(1, 3, "", at(2, "")...)}, "", at(2, "")},
			// Locks that are none: not enough, of another value, not below my view, another slot, another kind.
			{[]api.Msg{p.status(0, 3, "a", p.prepares(2, "a", 0, 1)...), p.status(1, 3, "b", at(0, "b")...)}, "b", at(0, "b")},
			{[]api.Msg{p.status(0, 3, "a", at(2, "c")...), p.status(1, 3, "b", at(0, "b")...)}, "b", at(0, "b")},
			{[]api.Msg{p.status(0, 3, "a", at(3, "a")...), p.status(1, 3, "b", at(0, "b")...)}, "b", at(0, "b")},
			{[]api.Msg{p.status(0, 3, "a", at(7, "a")...), p.status(1, 3, "b", at(0, "b")...)}, "b", at(0, "b")},
			{[]api.Msg{p.status(0, 3, "a", place{p.ring, 5}.prepares(2, "a", 0, 1, 2)...), p.status(1, 3, "b", at(0, "b")...)}, "b", at(0, "b")},
			{[]api.Msg{p.status(0, 3, "a", p.commits(2, "a", 0, 1, 2)...), p.status(1, 3, "b", at(0, "b")...)}, "b", at(0, "b")},
		} {
			_, got := leadsWith(p, wanted, c.statuses...)
			sent(t, got, p.toAll(p.propose(3, 3, c.value, c.votes...), p.prepare(3, 3, c.value))...)
		}
	}
}

// TestProposeWhatIsWantedIfNobodyIsLocked: without votes; and nothing, if nothing is wanted (P8.2, step 4).
func TestProposeWhatIsWantedIfNobodyIsLocked(t *testing.T) {
	p := of(4)
	for _, statuses := range [][]api.Msg{
		{p.status(0, 3, ""), p.status(1, 3, "")},
		{p.status(0, 3, "a"), p.status(1, 3, "b", p.prepares(2, "b", 0, 1)...)},
		{p.status(0, 3, "a", p.prepares(3, "a", 0, 1, 2)...), p.status(1, 3, "b", p.prepares(1, "c", 0, 1, 2)...)},
	} {
		_, got := leadsWith(p, "w", statuses...)
		sent(t, got, p.toAll(p.propose(3, 3, "w"), p.prepare(3, 3, "w"))...)
		x, got := leadsWith(p, "", statuses...)
		sent(t, got)
		sent(t, x.Want([]byte("w")), p.toAll(p.propose(3, 3, "w"), p.prepare(3, 3, "w"))...)
		// A lock that comes with a later status is taken, where nothing was wanted.
		x, _ = leadsWith(p, "", statuses...)
		lock := p.prepares(0, "l", 0, 1, 2)
		sent(t, x.Take(p.status(2, 3, "l", lock...)), p.toAll(p.propose(3, 3, "l", lock...), p.prepare(3, 3, "l"))...)
	}
}

// TestProposeMyOwnLock: my status is among those that count, at its node's place (P8.2, step 4).
func TestProposeMyOwnLock(t *testing.T) {
	p := of(4)
	x := p.round(1)
	x.Want([]byte("w"))
	takes(x, p.propose(0, 0, "x"), p.prepare(0, 0, "x"), p.prepare(3, 0, "x"))
	own := p.prepares(0, "x", 0, 1, 3)
	sent(t, x.Tick())
	sent(t, x.Take(p.status(2, 1, "y", p.prepares(0, "y", 0, 2, 3)...)))
	// Node 0 has no lock, mine stands ahead of node 2's.
	sent(t, x.Take(p.status(0, 1, "")), p.toAll(p.propose(1, 1, "x", own...), p.prepare(1, 1, "x"))...)

	x = p.round(1)
	takes(x, p.propose(0, 0, "x"), p.prepare(0, 0, "x"), p.prepare(3, 0, "x"))
	other := p.prepares(0, "y", 0, 2, 3)
	x.Tick()
	// Node 0's stands ahead of mine; my own lock does not let me prepare it.
	sent(t, takes(x, p.status(0, 1, "y", other...), p.status(2, 1, "")), p.toAll(p.propose(1, 1, "y", other...))...)
	locked(t, x, 0, "x", own)
}

// TestProposeOnceAView: a higher lock, another wish change nothing any more (P8.2, step 4).
func TestProposeOnceAView(t *testing.T) {
	p := of(4)
	x, _ := leadsWith(p, "w", p.status(0, 3, ""), p.status(1, 3, ""))
	sent(t, x.Take(p.status(2, 3, "l", p.prepares(2, "l", 0, 1, 2)...)))
	sent(t, x.Want([]byte("v")))
	sent(t, x.Take(p.propose(3, 3, "v")))
	// Four views later it leads again, and proposes what it wants by then.
	ticked(x, 4)
	sent(t, takes(x, p.status(0, 7, ""), p.status(1, 7, "")), p.toAll(p.propose(3, 7, "v"), p.prepare(3, 7, "v"))...)
}

// TestStatusesOfOtherViewsAreNotEnough (P8.2, step 4).
func TestStatusesOfOtherViewsAreNotEnough(t *testing.T) {
	p := of(4)
	x := p.round(3)
	x.Want([]byte("w"))
	lock := p.prepares(2, "l", 0, 1, 2)
	takes(x, p.status(0, 3, ""), p.status(1, 7, "l", lock...), p.status(2, 7, "l", lock...))
	sent(t, ticked(x, 3), to(1, p.status(3, 1, "")), to(2, p.status(3, 2, "")))
	sent(t, x.Take(p.status(1, 3, "")), p.toAll(p.propose(3, 3, "w"), p.prepare(3, 3, "w"))...)
	ticked(x, 3)
	sent(t, x.Tick(), p.toAll(p.propose(3, 7, "l", lock...), p.prepare(3, 7, "l"))...)
}

// TestMyProposalCountsForMe: its value is known, first come first, and none other of that view counts (P8.2, step 4).
func TestMyProposalCountsForMe(t *testing.T) {
	p := of(4)
	x := p.round(0)
	takes(x, p.propose(1, 1, "y"))
	x.Want([]byte("x"))
	takes(x, p.prepare(1, 0, "x"), p.prepare(2, 0, "x"))
	locked(t, x, 0, "x", p.prepares(0, "x", 0, 1, 2))
	takes(x, p.commit(3, 0, "x"), p.commit(2, 0, "x"))
	decided(t, x, "x", p.commits(0, "x", 0, 2, 3))
}

// TestCommitComesAheadOfPropose: the steps are taken in their order (P8.2).
func TestCommitComesAheadOfPropose(t *testing.T) {
	p := of(4)
	x := p.round(1)
	x.Want([]byte("w"))
	takes(x, p.propose(2, 2, "x"), p.prepare(0, 1, "x"), p.prepare(2, 1, "x"), p.prepare(3, 1, "x"), p.status(0, 1, ""), p.status(3, 1, ""))
	// Locked on x by then, it may not prepare what it proposes itself.
	sent(t, x.Tick(), p.toAll(p.commit(1, 1, "x"), p.propose(1, 1, "w"))...)
	locked(t, x, 1, "x", p.prepares(1, "x", 0, 2, 3))
}

// TestEachViewHasItsSteps: one node through three views, with all that it sends (P8.2, P8.3).
func TestEachViewHasItsSteps(t *testing.T) {
	p := of(4)
	x := p.round(2)
	x.Want([]byte("w"))
	sent(t, x.Take(p.propose(0, 0, "x")), p.toAll(p.prepare(2, 0, "x"))...)
	sent(t, takes(x, p.prepare(0, 0, "x"), p.prepare(1, 0, "x")), p.toAll(p.commit(2, 0, "x"))...)
	lock := p.prepares(0, "x", 0, 1, 2)
	sent(t, x.Tick(), to(1, p.status(2, 1, "x", lock...)))
	sent(t, x.Take(p.propose(1, 1, "y", p.prepares(0, "y", 0, 1, 3)...)))
	sent(t, x.Tick())
	sent(t, x.Take(p.status(0, 2, "")))
	sent(t, x.Take(p.status(3, 2, "x", p.prepares(0, "x", 1, 2, 3)...)), p.toAll(p.propose(2, 2, "x", lock...), p.prepare(2, 2, "x"))...)
	sent(t, takes(x, p.prepare(3, 2, "x"), p.prepare(0, 2, "x")), p.toAll(p.commit(2, 2, "x"))...)
	locked(t, x, 2, "x", p.prepares(2, "x", 0, 2, 3))
	sent(t, takes(x, p.commit(3, 2, "x"), p.commit(1, 0, "x"), p.commit(0, 2, "x")))
	decided(t, x, "x", p.commits(2, "x", 0, 2, 3))
}
