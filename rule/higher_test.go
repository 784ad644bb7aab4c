package rule_test

import (
	"math"
	"testing"

	"seneschal/api"
	"seneschal/rule"
	"seneschal/seal"
)

// higher: of a and b that lock is told, with the view that its votes prove.
func higher(t *testing.T, r *seal.Ring, below int, a, b rule.Lock, view int, want rule.Lock) {
	t.Helper()
	want.View = view
	isLock(t, rule.Higher(r, slot, below, a, b), want)
}

// TestHigherOfUnlikeViews: the greater one, either way round, whatever the locks say themselves (P7.2).
func TestHigherOfUnlikeViews(t *testing.T) {
	for _, nodes := range []int{1, 2, 3, 4, 7, 10} {
		r := ringOf(nodes)
		for low := range api.MaxView {
			for high := low + 1; high <= api.MaxView; high++ {
				for _, said := range []int{-1, 0, high, low, 99, math.MinInt, math.MaxInt} {
					elder, later := locked(said, "a", proof(r, low, "a")), locked(-said, "b", proof(r, high, "b"))
					higher(t, r, high+1, elder, later, high, later)
					higher(t, r, high+1, later, elder, high, later)
					higher(t, r, math.MaxInt, later, elder, high, later)
					// Where the later one is not below, it proves nothing.
					higher(t, r, high, elder, later, low, elder)
					higher(t, r, high, later, elder, low, elder)
					higher(t, r, low+1, later, elder, low, elder)
					isFree(t, rule.Higher(r, slot, low, elder, later))
					isFree(t, rule.Higher(r, slot, low, later, elder))
				}
			}
		}
	}
}

// TestHigherOfTheSameView: the first one, whatever they say themselves (P7.2).
func TestHigherOfTheSameView(t *testing.T) {
	for _, nodes := range []int{1, 4, 7, 10} {
		r := ringOf(nodes)
		for view := range api.MaxView + 1 {
			for _, said := range []int{-1, 0, view, 99, math.MinInt, math.MaxInt} {
				one, two := locked(said, "a", proof(r, view, "a")), locked(view, "b", prepares(r, view, "b", nodesUpTo(nodes)...))
				higher(t, r, api.MaxView+1, one, two, view, one)
				higher(t, r, api.MaxView+1, two, one, view, two)
				higher(t, r, view+1, one, one, view, one)
			}
		}
		// Of one value, by other votes: these are the lock's own.
		one, two := locked(2, "a", proof(r, 2, "a")), locked(2, "a", append(proof(r, 2, "a"), prepares(r, 1, "a", 0)...))
		higher(t, r, 3, one, two, 2, one)
		higher(t, r, 3, two, one, 2, two)
	}
}

// locksThatProveNothing say that they are at a view, or at none, but their votes do not prove it below view 4.
func locksThatProveNothing(r *seal.Ring, said int) []rule.Lock {
	nodes := nodesUpTo(r.Nodes())
	return []rule.Lock{
		rule.Free(), {}, {View: said}, locked(said, "z", nil), locked(said, "z", []api.Vote{}), locked(said, "z", short(r, 3, "z")),
		locked(said, "z", proof(r, 3, "y")), locked(said, "", proof(r, 3, "z")), locked(said, "z", proof(r, 3, "")),
		locked(said, "z", proof(r, 4, "z")), locked(said, "z", proof(r, -1, "z")), locked(said, "z", make([]api.Vote, 12)),
		locked(said, "z", votes(r, api.VoteCommit, slot, 3, "z", nodes...)), locked(said, "z", votes(r, api.VotePrepare, slot+1, 3, "z", nodes...)),
		locked(said, "z", prepares(seal.New(r.Nodes(), otherSeed), 3, "z", nodes...)),
		locked(said, "z", append(prepares(r, 4, "z", 0), proof(r, 3, "z")...)),
	}
}

// TestHigherOfOneThatProvesNothing: the other one, either way round, also where that is of view 0 (P7.2).
func TestHigherOfOneThatProvesNothing(t *testing.T) {
	for _, nodes := range []int{1, 2, 3, 4, 7, 10} {
		r := ringOf(nodes)
		for _, said := range []int{-1, 0, 3, 99, math.MinInt, math.MaxInt} {
			for _, bad := range locksThatProveNothing(r, said) {
				for view := range 4 {
					good := locked(-1, "a", proof(r, view, "a"))
					higher(t, r, 4, good, bad, view, good)
					higher(t, r, 4, bad, good, view, good)
				}
			}
		}
	}
}

// TestHigherOfTwoThatProveNothing: Free, whatever they say themselves (P7.2).
func TestHigherOfTwoThatProveNothing(t *testing.T) {
	for _, nodes := range []int{1, 4, 7, 10} {
		r := ringOf(nodes)
		for _, said := range []int{-1, 0, 3, math.MaxInt} {
			for _, a := range locksThatProveNothing(r, said) {
				for _, b := range locksThatProveNothing(r, 7) {
					isFree(t, rule.Higher(r, slot, 4, a, b))
				}
			}
		}
	}
}

func TestHigherOfANilRingIsFree(t *testing.T) {
	r := ringOf(4)
	for _, none := range []*seal.Ring{nil, {}} {
		for _, a := range []rule.Lock{rule.Free(), {}, locked(2, "a", proof(r, 2, "a")), locked(0, "", prepares(none, 0, "", 0, 1, 2, 3))} {
			isFree(t, rule.Higher(none, slot, 3, a, locked(1, "b", proof(r, 1, "b"))))
			isFree(t, rule.Higher(none, slot, 3, locked(1, "b", proof(r, 1, "b")), a))
		}
	}
}

// TestHigherIsOfOneSlot: votes of another slot prove nothing in it (P7.2).
func TestHigherIsOfOneSlot(t *testing.T) {
	r := ringOf(4)
	here, there := locked(1, "a", proof(r, 1, "a")), locked(2, "b", votes(r, api.VotePrepare, slot+1, 2, "b", 0, 1, 2))
	higher(t, r, 4, here, there, 1, here)
	higher(t, r, 4, there, here, 1, here)
	there.View = 2
	isLock(t, rule.Higher(r, slot+1, 4, here, there), there)
	isFree(t, rule.Higher(r, slot+2, 4, here, there))
}

// TestHigherTellsTheWholeLock: all its votes, in their order, also those that do not count and those behind the first ten (P7.2).
func TestHigherTellsTheWholeLock(t *testing.T) {
	for _, nodes := range []int{1, 4, 7} {
		r := ringOf(nodes)
		l := append(proof(r, 2, "a"), votesThatDoNotCount(r, 2, 0)...)
		l = append(l, make([]api.Vote, 15)...)
		k := locked(0, "a", l)
		higher(t, r, 3, k, rule.Free(), 2, k)
		higher(t, r, 3, rule.Free(), k, 2, k)
	}
	for _, value := range []string{"", "x", string(make([]byte, 1000))} {
		r := ringOf(4)
		k := locked(7, value, proof(r, 0, value))
		higher(t, r, 1, k, rule.Lock{}, 0, k)
		higher(t, r, 1, rule.Lock{}, k, 0, k)
	}
}

// higherOfOthers is Higher as the model tells it.
func higherOfOthers(nodes, below int, a, b rule.Lock) rule.Lock {
	first := provedByOthers(nodes, a.Votes, slot, below, string(a.Value))
	second := provedByOthers(nodes, b.Votes, slot, below, string(b.Value))
	switch {
	case first < 0 && second < 0:
		return rule.Lock{View: -1}
	case second > first:
		return rule.Lock{View: second, Value: b.Value, Votes: b.Votes}
	}
	return rule.Lock{View: first, Value: a.Value, Votes: a.Votes}
}

func TestHigherOfMixedLocks(t *testing.T) {
	c, texts, told := chance(5), []string{"x", "y", ""}, 0
	for _, nodes := range []int{1, 2, 4, 7, 10} {
		r := ringOf(nodes)
		for range 600 {
			a := locked(c.below(5)-1, texts[c.below(3)], mixedVotes(&c, r))
			b := locked(c.below(5)-1, texts[c.below(3)], mixedVotes(&c, r))
			below := c.below(6)
			want := higherOfOthers(nodes, below, a, b)
			isLock(t, rule.Higher(r, slot, below, a, b), want)
			if want.View >= 0 {
				told++
			}
		}
	}
	if told < 100 {
		t.Error("only so many are told:", told)
	}
}

// TestTheHighestOfMany: taken one by one, of Free at first, it is the first of those of the greatest view (P7.2, W10).
func TestTheHighestOfMany(t *testing.T) {
	r := ringOf(4)
	all := []rule.Lock{
		locked(9, "bad", short(r, 7, "bad")), locked(0, "a", proof(r, 1, "a")), locked(1, "b", proof(r, 3, "b")),
		locked(8, "c", proof(r, 3, "c")), locked(3, "d", proof(r, 2, "d")), locked(5, "late", proof(r, 6, "late")),
	}
	k := rule.Free()
	for _, next := range all {
		k = rule.Higher(r, slot, 6, k, next)
	}
	isLock(t, k, locked(3, "b", proof(r, 3, "b")))
}
