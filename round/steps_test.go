package round_test

import (
	"slices"
	"testing"

	"seneschal/api"
)

// TestAnOrdinarySlot: a proposal, prepares, commits, and what each of them makes a node send (P8.2).
func TestAnOrdinarySlot(t *testing.T) {
	p := of(4)
	x := p.round(2)
	sent(t, x.Take(p.propose(0, 0, "x")), p.toAll(p.prepare(2, 0, "x"))...)
	free(t, x)
	sent(t, x.Take(p.prepare(3, 0, "x")))
	sent(t, x.Take(p.prepare(0, 0, "x")), p.toAll(p.commit(2, 0, "x"))...)
	locked(t, x, 0, "x", p.prepares(0, "x", 0, 2, 3))
	sent(t, x.Take(p.prepare(1, 0, "x")))
	locked(t, x, 0, "x", p.prepares(0, "x", 0, 2, 3))
	sent(t, x.Take(p.commit(3, 0, "x")))
	undecided(t, x)
	sent(t, x.Take(p.commit(1, 0, "x")))
	decided(t, x, "x", p.commits(0, "x", 1, 2, 3))
	locked(t, x, 0, "x", p.prepares(0, "x", 0, 2, 3))
	viewIs(t, x, 0)
}

// TestHowManyAreEnough: of each number of nodes, just Quorum prepares, commits and statuses, my own among them (P8.2).
func TestHowManyAreEnough(t *testing.T) {
	for count := 2; count <= api.MaxNodes; count++ {
		p := of(count)
		lead := p.leader(0)
		x := p.round(lead)
		sent(t, x.Want([]byte("x")), p.toAll(p.propose(lead, 0, "x"), p.prepare(lead, 0, "x"))...)
		others := p.others(lead)[:p.quorum()-1]
		for i, from := range others {
			if x.Lock().View != -1 {
				t.Errorf("%d nodes: locked by %d", count, i+1)
			}
			x.Take(p.prepare(from, 0, "x"))
		}
		voters := slices.Sorted(slices.Values(append([]int{lead}, others...)))
		locked(t, x, 0, "x", p.prepares(0, "x", voters...))
		for _, from := range others {
			undecided(t, x)
			sent(t, x.Take(p.commit(from, 0, "x")))
		}
		decided(t, x, "x", p.commits(0, "x", voters...))

		lead = p.leader(1)
		x = p.round(lead)
		x.Want([]byte("w"))
		sent(t, x.Tick())
		others = p.others(lead)[:p.quorum()-1]
		for _, from := range others[:len(others)-1] {
			sent(t, x.Take(p.status(from, 1, "")))
		}
		sent(t, x.Take(p.status(others[len(others)-1], 1, "")), p.toAll(p.propose(lead, 1, "w"), p.prepare(lead, 1, "w"))...)
	}
}

// TestARingOfOne: it decides what it wants, in whatever view, and sends nothing (P8.2, the document's example).
func TestARingOfOne(t *testing.T) {
	p := of(1)
	for view := range api.MaxView + 1 {
		x := p.round(0)
		sent(t, ticked(x, view))
		undecided(t, x)
		sent(t, x.Want([]byte("x")))
		decided(t, x, "x", p.commits(view, "x", 0))
		locked(t, x, view, "x", p.prepares(view, "x", 0))
		sent(t, x.Want([]byte("y")))
		sent(t, x.Tick())
		viewIs(t, x, view)
	}
}

// TestDecisionsHaveTheirVotesByRisingNodes: in whatever order these came (P8.2, step 1).
func TestDecisionsHaveTheirVotesByRisingNodes(t *testing.T) {
	p := of(7)
	for _, order := range [][]int{{0, 1, 2, 3, 5}, {5, 3, 2, 1, 0}, {3, 0, 5, 1, 2}} {
		x := p.round(6)
		x.Take(p.propose(4, 0, "x"))
		for _, from := range order {
			x.Take(p.commit(from, 0, "x"))
		}
		decided(t, x, "x", p.commits(0, "x", 0, 1, 2, 3, 5))
	}
}

// TestDecisionsHaveAllVotesThatThereAre: more than Quorum, if they came ahead of the value (P8.2, step 1).
func TestDecisionsHaveAllVotesThatThereAre(t *testing.T) {
	p := of(7)
	x := p.round(6)
	for _, from := range []int{5, 4, 3, 2, 1, 0} {
		sent(t, x.Take(p.commit(from, 2, "x")))
	}
	sent(t, x.Take(p.propose(4, 0, "x")))
	decided(t, x, "x", p.commits(2, "x", 0, 1, 2, 3, 4, 5))
}

// TestOnlyKnownValuesAreDecidedAndCommitted: votes wait for a proposal of their value, of whatever view (P8.2, steps 1 and 3).
func TestOnlyKnownValuesAreDecidedAndCommitted(t *testing.T) {
	p := of(4)
	for view := range api.MaxView + 1 {
		if p.leader(view) == 3 {
			continue // my own proposals do not come from outside
		}
		x := p.round(3)
		takes(x, p.prepare(0, 0, "x"), p.prepare(1, 0, "x"), p.prepare(2, 0, "x"))
		free(t, x)
		x.Take(p.propose(p.leader(view), view, "x"))
		if view == 0 {
			locked(t, x, 0, "x", p.prepares(0, "x", 0, 1, 2, 3))
		} else {
			locked(t, x, 0, "x", p.prepares(0, "x", 0, 1, 2))
		}
		x = p.round(3)
		takes(x, p.commit(0, 5, "x"), p.commit(1, 5, "x"), p.commit(2, 5, "x"))
		undecided(t, x)
		sent(t, x.Take(p.propose(p.leader(view), view, "x")))
		decided(t, x, "x", p.commits(5, "x", 0, 1, 2))
	}
}

// TestValuesOfStatusesAndVotesAreNotKnown: only those of proposals that counted are (P8.2).
func TestValuesOfStatusesAndVotesAreNotKnown(t *testing.T) {
	p := of(4)
	x := p.round(1)
	x.Take(p.status(0, 1, "x", p.prepares(0, "x", 0, 2, 3)...))
	x.Take(p.propose(2, 0, "x")) // node 2 does not lead
	x.Take(p.decide(2, "x", p.commits(0, "x", 0, 2)...))
	takes(x, p.commit(0, 0, "x"), p.commit(2, 0, "x"), p.commit(3, 0, "x"))
	undecided(t, x)
	// Proposed by me, it is known: it is decided before I prepare it.
	x.Tick()
	sent(t, x.Take(p.status(3, 1, "")), p.toAll(p.propose(1, 1, "x", p.prepares(0, "x", 0, 2, 3)...))...)
	decided(t, x, "x", p.commits(0, "x", 0, 2, 3))
	free(t, x)
}

// TestVotesOfUnlikeViewsValuesAndKindsDoNotAddUp (P8.2, steps 1 and 3).
func TestVotesOfUnlikeViewsValuesAndKindsDoNotAddUp(t *testing.T) {
	p := of(4)
	x := p.round(3)
	takes(x, p.propose(0, 0, "x"), p.propose(1, 1, "y"))
	sent(t, takes(x, p.commit(0, 0, "x"), p.commit(1, 1, "x"), p.commit(2, 2, "x"), p.commit(0, 1, "y"), p.commit(1, 0, "y")))
	sent(t, takes(x, p.prepare(0, 0, "x"), p.prepare(1, 1, "x"), p.prepare(2, 8, "x"), p.prepare(1, 0, "y"), p.prepare(2, 0, "y")))
	undecided(t, x)
	free(t, x)
	takes(x, p.commit(1, 0, "x"))
	undecided(t, x)
	takes(x, p.commit(2, 0, "x"))
	decided(t, x, "x", p.commits(0, "x", 0, 1, 2))
}

// TestOfSeveralViewsTheLeastIsDecided: where a value becomes known that was committed in two (P8.2, step 1).
func TestOfSeveralViewsTheLeastIsDecided(t *testing.T) {
	p := of(4)
	for low := range api.MaxView {
		for high := low + 1; high <= api.MaxView; high++ {
			x := p.round(3)
			for _, from := range []int{0, 1, 2} {
				takes(x, p.commit(from, high, "x"), p.commit(from, low, "x"))
			}
			x.Take(p.propose(2, 2, "x"))
			decided(t, x, "x", p.commits(low, "x", 0, 1, 2))
		}
	}
}

// TestADecisionComesAheadOfVotes: nothing is prepared or committed in it (P8.2, the order of steps).
func TestADecisionComesAheadOfVotes(t *testing.T) {
	p := of(4)
	x := p.round(3)
	for _, from := range []int{0, 1, 2} {
		takes(x, p.prepare(from, 0, "x"), p.commit(from, 0, "x"))
	}
	sent(t, x.Take(p.propose(0, 0, "x")))
	decided(t, x, "x", p.commits(0, "x", 0, 1, 2))
	free(t, x)

	x = p.round(0)
	for _, from := range []int{1, 2, 3} {
		takes(x, p.prepare(from, 0, "x"), p.commit(from, 0, "x"))
	}
	sent(t, x.Want([]byte("x")), p.toAll(p.propose(0, 0, "x"))...)
	decided(t, x, "x", p.commits(0, "x", 1, 2, 3))
	free(t, x)
}

// TestAVoteOfOnesOwnCountsAtOnce: for the lock, and for the decision that follows (P8.2).
func TestAVoteOfOnesOwnCountsAtOnce(t *testing.T) {
	p := of(4)
	x := p.round(3)
	takes(x, p.prepare(1, 0, "x"), p.prepare(0, 0, "x"), p.commit(2, 0, "x"), p.commit(0, 0, "x"))
	sent(t, x.Take(p.propose(0, 0, "x")), p.toAll(p.prepare(3, 0, "x"), p.commit(3, 0, "x"))...)
	locked(t, x, 0, "x", p.prepares(0, "x", 0, 1, 3))
	decided(t, x, "x", p.commits(0, "x", 0, 2, 3))
}

// TestVotesAheadOfTheirProposalInALaterView (P8.2).
func TestVotesAheadOfTheirProposalInALaterView(t *testing.T) {
	p := of(4)
	x := p.round(3)
	sent(t, takes(x, p.prepare(0, 1, "x"), p.prepare(2, 1, "x"), p.commit(0, 1, "x"), p.propose(1, 1, "x")))
	status := to(1, p.status(3, 1, ""))
	sent(t, x.Tick(), append([]api.Msg{status}, p.toAll(p.prepare(3, 1, "x"), p.commit(3, 1, "x"))...)...)
	locked(t, x, 1, "x", p.prepares(1, "x", 0, 2, 3))
	undecided(t, x)
	sent(t, x.Take(p.commit(1, 1, "x")))
	decided(t, x, "x", p.commits(1, "x", 0, 1, 3))
}

// TestPrepareOnceAView: not twice in one, again in the next (P8.2, step 2).
func TestPrepareOnceAView(t *testing.T) {
	p := of(4)
	x := p.round(3)
	sent(t, x.Take(p.propose(0, 0, "x")), p.toAll(p.prepare(3, 0, "x"))...)
	sent(t, takes(x, p.propose(0, 0, "x"), p.propose(0, 0, "y"), p.propose(1, 0, "x"), p.status(0, 0, "")))
	sent(t, x.Want([]byte("w")))
	sent(t, x.Tick(), to(1, p.status(3, 1, "")))
	sent(t, x.Take(p.propose(1, 1, "y")), p.toAll(p.prepare(3, 1, "y"))...)
	sent(t, takes(x, p.propose(1, 1, "y"), p.propose(0, 0, "x")))
	sent(t, x.Tick(), to(2, p.status(3, 2, "")))
	sent(t, x.Take(p.propose(2, 2, "x")), p.toAll(p.prepare(3, 2, "x"))...)
}

// lockedOnX is node 3 of four in view 2, locked at view 1 on x.
func lockedOnX(t *testing.T, p place) (take func(api.Msg) []api.Msg) {
	t.Helper()
	x := p.round(3)
	x.Tick()
	takes(x, p.propose(1, 1, "x"), p.prepare(0, 1, "x"), p.prepare(1, 1, "x"))
	locked(t, x, 1, "x", p.prepares(1, "x", 0, 1, 3))
	sent(t, x.Tick(), to(2, p.status(3, 2, "x", p.prepares(1, "x", 0, 1, 3)...)))
	return x.Take
}

// TestPrepareOnlyWhatALockAllows (P8.2, step 2).
func TestPrepareOnlyWhatALockAllows(t *testing.T) {
	p := of(4)
	enough := []int{0, 1, 2}
	for _, why := range [][]api.Vote{
		nil, p.prepares(0, "y", enough...), p.prepares(1, "y", enough...), p.prepares(2, "y", enough...), p.prepares(1, "x", enough...), p.commits(1, "y", enough...),
	} {
		sent(t, lockedOnX(t, p)(p.propose(2, 2, "y", why...)))
		sent(t, lockedOnX(t, p)(p.propose(2, 2, "", why...)))
		sent(t, lockedOnX(t, p)(p.propose(2, 2, "x", why...)), p.toAll(p.prepare(3, 2, "x"))...)
	}
	// A proof of a view above the lock's, and below mine, sets free.
	for _, c := range []struct {
		proof []api.Vote
		view  int
		may   bool
	}{
		{p.prepares(2, "y", enough...), 4, true}, {p.prepares(3, "y", enough...), 4, true}, {p.prepares(2, "y", 0, 1), 4, false},
		{p.prepares(4, "y", enough...), 4, false}, {p.prepares(5, "y", enough...), 4, false}, {p.prepares(1, "y", enough...), 4, false},
		{p.prepares(2, "z", enough...), 4, false}, {place{p.ring, 5}.prepares(2, "y", enough...), 4, false}, {p.prepares(7, "y", enough...), 8, true},
	} {
		x := p.round(3)
		x.Tick()
		takes(x, p.propose(1, 1, "x"), p.prepare(0, 1, "x"), p.prepare(1, 1, "x"))
		ticked(x, c.view-1)
		got := x.Take(p.propose(p.leader(c.view), c.view, "y", c.proof...))
		if c.may {
			sent(t, got, p.toAll(p.prepare(3, c.view, "y"))...)
		} else {
			sent(t, got)
		}
		locked(t, x, 1, "x", p.prepares(1, "x", 0, 1, 3))
	}
}

// TestWhatWasNotAllowedMayStillBeCommitted: enough others prepared it in my view (P8.2, step 3).
func TestWhatWasNotAllowedMayStillBeCommitted(t *testing.T) {
	p := of(4)
	x := p.round(3)
	takes(x, p.propose(0, 0, "x"), p.prepare(0, 0, "x"), p.prepare(1, 0, "x"))
	x.Tick()
	sent(t, takes(x, p.propose(1, 1, "y"), p.prepare(2, 1, "y"), p.prepare(1, 1, "y")))
	// The lock is then another one, on the value that was refused: it is committed, and then prepared.
	sent(t, x.Take(p.prepare(0, 1, "y")), p.toAll(p.commit(3, 1, "y"), p.prepare(3, 1, "y"))...)
	locked(t, x, 1, "y", p.prepares(1, "y", 0, 1, 2))
}

// TestCommitOnceAView: what is enough for another value later changes nothing (P8.2, step 3).
func TestCommitOnceAView(t *testing.T) {
	p := of(4)
	x := p.round(3)
	takes(x, p.propose(0, 0, "x"), p.propose(1, 1, "y"), p.prepare(0, 0, "x"), p.prepare(1, 0, "x"))
	locked(t, x, 0, "x", p.prepares(0, "x", 0, 1, 3))
	sent(t, takes(x, p.prepare(0, 0, "y"), p.prepare(1, 0, "y"), p.prepare(2, 0, "y"), p.prepare(2, 0, "x")))
	locked(t, x, 0, "x", p.prepares(0, "x", 0, 1, 3))
	// Votes of a view that is over, or is not yet mine, make no lock.
	sent(t, takes(x, p.prepare(0, 2, "x"), p.prepare(1, 2, "x"), p.prepare(2, 2, "x")))
	x.Tick()
	sent(t, takes(x, p.propose(2, 2, "x")))
	locked(t, x, 0, "x", p.prepares(0, "x", 0, 1, 3))
	status := to(2, p.status(3, 2, "x", p.prepares(0, "x", 0, 1, 3)...))
	sent(t, x.Tick(), append([]api.Msg{status}, p.toAll(p.prepare(3, 2, "x"), p.commit(3, 2, "x"))...)...)
	locked(t, x, 2, "x", p.prepares(2, "x", 0, 1, 2, 3))
}

// TestOfSeveralValuesTheOneKnownFirstIsCommitted: not that of the least view, sum or value (P8.2, step 3).
func TestOfSeveralValuesTheOneKnownFirstIsCommitted(t *testing.T) {
	p := of(4)
	values := []string{"a", "b", "c", "d"}
	for _, first := range values {
		for _, second := range values {
			for _, elderFirst := range []bool{true, false} {
				if first == second {
					continue
				}
				x := p.round(3)
				one, two := p.propose(0, 0, first), p.propose(2, 2, second)
				if !elderFirst {
					one, two = p.propose(2, 2, first), p.propose(0, 0, second)
				}
				takes(x, one, two, p.propose(1, 1, second))
				for _, from := range []int{0, 1, 2} {
					takes(x, p.prepare(from, 1, second), p.prepare(from, 1, first))
				}
				x.Tick()
				locked(t, x, 1, first, p.prepares(1, first, 0, 1, 2))
			}
		}
	}
}

// TestAValueIsKnownSinceItsFirstProposal: proposed once more it does not lose its rank (P8.2).
func TestAValueIsKnownSinceItsFirstProposal(t *testing.T) {
	p := of(4)
	x := p.round(3)
	takes(x, p.propose(0, 0, "a"), p.propose(1, 1, "b"), p.propose(2, 2, "a"), p.propose(0, 4, "b"))
	for _, from := range []int{0, 1, 2} {
		takes(x, p.prepare(from, 2, "b"), p.prepare(from, 2, "a"))
	}
	ticked(x, 2)
	locked(t, x, 2, "a", p.prepares(2, "a", 0, 1, 2, 3))
}

// TestLocksHaveTheirVotesByRisingNodes: all that there are (P8.2, step 3).
func TestLocksHaveTheirVotesByRisingNodes(t *testing.T) {
	p := of(7)
	for _, order := range [][]int{{0, 1, 2, 3, 4, 5}, {5, 4, 3, 2, 1, 0}, {3, 0, 5, 1, 4, 2}} {
		x := p.round(6)
		for _, from := range order {
			x.Take(p.prepare(from, 0, "x"))
		}
		sent(t, x.Take(p.propose(4, 0, "x")), p.toAll(p.prepare(6, 0, "x"), p.commit(6, 0, "x"))...)
		locked(t, x, 0, "x", p.prepares(0, "x", 0, 1, 2, 3, 4, 5, 6))
	}
}
