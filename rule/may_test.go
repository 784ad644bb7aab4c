package rule_test

import (
	"math"
	"slices"
	"testing"

	"seneschal/api"
	"seneschal/rule"
	"seneschal/seal"
)

// may: whether a node that is locked by k may prepare that.
func may(t *testing.T, r *seal.Ring, k rule.Lock, view int, value string, why []api.Vote, want bool) {
	t.Helper()
	if got := rule.May(r, k, slot, view, []byte(value), why); got != want {
		t.Errorf("%d nodes, locked at %d on %q, %q in view %d by %d votes: %v", r.Nodes(), k.View, k.Value, value, view, len(why), got)
	}
}

func TestTheExample(t *testing.T) {
	for _, nodes := range []int{1, 4, 7, 10} {
		r := ringOf(nodes)
		for _, k := range []rule.Lock{locked(2, "x", nil), locked(2, "x", proof(r, 2, "x"))} {
			may(t, r, k, 3, "y", proof(r, 1, "y"), false)
			may(t, r, k, 8, "y", proof(r, 1, "y"), false)
		}
	}
}

// TestMayOfNoLock: any value is free, whatever else the lock holds, and whatever is said for it (P7.2).
func TestMayOfNoLock(t *testing.T) {
	for _, r := range []*seal.Ring{ringOf(1), ringOf(4), ringOf(7), ringOf(10), nil} {
		for _, k := range []rule.Lock{rule.Free(), locked(-1, "x", nil), locked(-1, "x", proof(ringOf(4), 7, "x"))} {
			for _, view := range farNumbers() {
				for _, value := range []string{"", "x", "y"} {
					for _, why := range [][]api.Vote{nil, {}, proof(ringOf(4), 1, "y"), short(ringOf(4), 1, "z"), make([]api.Vote, 20)} {
						may(t, r, k, view, value, why, true)
					}
				}
			}
		}
	}
}

// TestMayOfItsOwnValue: it needs no proof, at any view of the lock and of the node (P7.2).
func TestMayOfItsOwnValue(t *testing.T) {
	for _, r := range []*seal.Ring{ringOf(4), nil} {
		for _, at := range farNumbers() {
			for _, view := range farNumbers() {
				for _, why := range [][]api.Vote{nil, proof(ringOf(4), 1, "y"), short(ringOf(4), 1, "x")} {
					may(t, r, locked(at, "x", nil), view, "x", why, true)
					may(t, r, rule.Lock{View: at}, view, "", why, true)
					may(t, r, rule.Lock{View: at, Value: []byte{}}, view, "", why, true)
				}
				// Another value is not its own, by one byte or by its length.
				for _, value := range []string{"", "y", "xx", "x\x00", "\x00x"} {
					may(t, r, locked(at, "x", nil), view, value, nil, at == -1)
				}
			}
		}
	}
	if !rule.May(nil, locked(2, "", nil), slot, 3, nil, nil) || !rule.May(nil, rule.Lock{View: 2}, slot, 3, []byte{}, nil) {
		t.Error("nil and empty are not the same value")
	}
}

// TestMayOfAnotherValue: only by a proof of that value, of a view above the lock's and below the node's (P7.2).
func TestMayOfAnotherValue(t *testing.T) {
	for _, nodes := range []int{1, 2, 3, 4, 7, 10} {
		r := ringOf(nodes)
		for at := 0; at <= api.MaxView; at++ {
			k := locked(at, "x", proof(r, at, "x"))
			for proved := 0; proved <= api.MaxView; proved++ {
				for view := 0; view <= api.MaxView+1; view++ {
					may(t, r, k, view, "y", proof(r, proved, "y"), proved > at && proved < view)
				}
				may(t, r, k, api.MaxView+1, "y", proof(r, proved, "x"), false)
				may(t, r, k, api.MaxView+1, "y", proof(r, proved, "z"), false)
				may(t, r, k, api.MaxView+1, "y", short(r, proved, "y"), false)
			}
			may(t, r, k, api.MaxView+1, "y", nil, false)
			may(t, r, k, api.MaxView+1, "y", []api.Vote{}, false)
		}
	}
}

// TestMayOfProofsThatAreNone: enough votes of a later view, but not for that value in that slot (P7.2).
func TestMayOfProofsThatAreNone(t *testing.T) {
	for _, nodes := range []int{1, 4, 7, 10} {
		r, all := ringOf(nodes), nodesUpTo(nodes)
		k := locked(2, "x", proof(r, 2, "x"))
		may(t, r, k, 4, "y", proof(r, 3, "y"), true)
		may(t, r, k, 4, "y", prepares(r, 3, "y", all...), true)
		may(t, r, k, 4, "", proof(r, 3, ""), true)
		may(t, r, k, 4, "y", votes(r, api.VoteCommit, slot, 3, "y", all...), false)
		may(t, r, k, 4, "y", votes(r, api.VotePrepare, slot+1, 3, "y", all...), false)
		may(t, r, k, 4, "y", prepares(seal.New(nodes, otherSeed), 3, "y", all...), false)
		may(t, r, k, 4, "y", proof(r, 4, "y"), false)
		may(t, r, k, 4, "y", proof(r, 5, "y"), false)
		may(t, r, k, 4, "y", proof(r, -1, "y"), false)
		may(t, nil, k, 4, "y", proof(r, 3, "y"), false)
		if nodes > 1 {
			may(t, r, k, 4, "y", append(prepares(r, 1, "y", nodes-1), proof(r, 3, "y")...), false)
		}
		if rule.May(r, k, slot+1, 4, []byte("y"), proof(r, 3, "y")) {
			t.Errorf("%d nodes: a proof of another slot", nodes)
		}
	}
}

// TestMayDoesNotAskForTheLocksVotes: the lock is the node's own, and binds it at the view that it says (P7.2).
func TestMayDoesNotAskForTheLocksVotes(t *testing.T) {
	r := ringOf(4)
	for _, own := range [][]api.Vote{nil, short(r, 2, "x"), proof(r, 0, "x"), proof(r, 7, "x"), proof(r, 7, "y"), make([]api.Vote, 12)} {
		k := locked(2, "x", own)
		may(t, r, k, 8, "y", nil, false)
		may(t, r, k, 8, "y", proof(r, 1, "y"), false)
		may(t, r, k, 8, "y", proof(r, 2, "y"), false)
		may(t, r, k, 8, "y", proof(r, 3, "y"), true)
	}
}

// TestMayOfLocksAtFarViews: only -1 is none; below it every view that is proved is above (P7.2, W10).
func TestMayOfLocksAtFarViews(t *testing.T) {
	r := ringOf(4)
	for _, at := range farNumbers() {
		if at == -1 {
			continue
		}
		k := locked(at, "x", nil)
		for _, proved := range farNumbers() {
			for _, view := range farNumbers() {
				may(t, r, k, view, "y", proof(r, proved, "y"), proved >= 0 && proved > at && proved < view)
			}
			may(t, r, k, math.MaxInt, "y", short(r, proved, "y"), false)
			may(t, r, k, math.MaxInt, "y", nil, false)
		}
	}
	// A lock of zero value is one at view 0 on the empty value.
	may(t, r, rule.Lock{}, 4, "", nil, true)
	may(t, r, rule.Lock{}, 4, "y", nil, false)
	may(t, r, rule.Lock{}, 4, "y", proof(r, 0, "y"), false)
	may(t, r, rule.Lock{}, 4, "y", proof(r, 1, "y"), true)
}

// TestWhoIsLockedTakesAnotherValueOnlyByALaterProof: over many locks, values and proofs (P7.3).
func TestWhoIsLockedTakesAnotherValueOnlyByALaterProof(t *testing.T) {
	c, texts := chance(7), []string{"x", "y", ""}
	taken, refused := 0, 0
	for _, nodes := range []int{1, 2, 4, 7, 10} {
		r := ringOf(nodes)
		for range 600 {
			k := locked(c.below(4), texts[c.below(3)], mixedVotes(&c, r))
			view, why := c.below(6), mixedVotes(&c, r)
			for _, value := range texts {
				if value == string(k.Value) {
					may(t, r, k, view, value, why, true)
					continue
				}
				later := provedByOthers(nodes, why, slot, view, value) > k.View
				may(t, r, k, view, value, why, later)
				if later {
					taken++
				} else {
					refused++
				}
			}
		}
	}
	if taken < 50 || refused < 50 {
		t.Error("taken and refused:", taken, refused)
	}
}

// TestALockMovesOnlyOnward: a node that takes what it may, and is locked on what is proved, is never bound to another value by an elder view (P7.3).
func TestALockMovesOnlyOnward(t *testing.T) {
	c, texts := chance(3), []string{"x", "y", "z", ""}
	r, moves := ringOf(4), 0
	for range 200 {
		k := rule.Free()
		for view := range 12 {
			value, at := texts[c.below(4)], c.below(12)
			by := nodesUpTo(2 + c.below(3))
			why := prepares(r, at, value, by...)
			if !rule.May(r, k, slot, view, []byte(value), why) {
				continue
			}
			if bound := k.View >= 0 && string(k.Value) != value; bound && (at <= k.View || at >= view || len(by) < 3) {
				t.Fatalf("locked at %d on %q, and took %q in view %d by %d votes of %d", k.View, k.Value, value, view, len(by), at)
			}
			k = locked(view, value, proof(r, view, value))
			moves++
		}
	}
	if moves < 200 {
		t.Error("it hardly moves:", moves)
	}
}

func TestMayIsTheSameEachTime(t *testing.T) {
	r := ringOf(7)
	k, why := locked(2, "x", proof(r, 2, "x")), proof(r, 3, "y")
	for turn := range 20 {
		may(t, ringOf(7), k, 4, "y", slices.Clone(why), true)
		may(t, r, k, 4, "y", proof(r, turn%3, "y"), false)
		may(t, r, rule.Free(), turn, "z", nil, true)
	}
}
