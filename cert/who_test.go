package cert_test

import (
	"math/bits"
	"slices"
	"testing"

	"seneschal/api"
	"seneschal/cert"
	"seneschal/seal"
)

// nodesThatVoted is Who, node by node: which of them have among the first ten votes just the one that they would cast.
func nodesThatVoted(r *seal.Ring, l []api.Vote, s subject) []int {
	var all []int
	for from := range r.Nodes() {
		own := api.Vote{Kind: s.kind, Slot: s.slot, View: s.view, Sum: s.sum, From: from}
		own.Tag = tagOfOthers(namedSeed, own)
		if slices.Contains(l[:min(len(l), 10)], own) {
			all = append(all, from)
		}
	}
	return all
}

func TestTheExamples(t *testing.T) {
	r := seal.New(4, namedSeed)
	for kind := api.VotePrepare; kind <= api.VoteMark; kind++ {
		s := subject{kind, 5, 2, sumOf("x")}
		if s.meets(r, s.by(r, 0, 1)) || s.meets(r, s.by(r, 3, 2)) {
			t.Error("two of four are enough")
		}
		if !s.meets(r, s.by(r, 0, 1, 2)) || !s.meets(r, s.by(r, 3, 0, 2)) {
			t.Error("three of four are not enough")
		}
	}
}

func TestWhoOfNoVotes(t *testing.T) {
	for nodes := 1; nodes <= api.MaxNodes; nodes++ {
		r := seal.New(nodes, namedSeed)
		for _, l := range [][]api.Vote{nil, {}, make([]api.Vote, 0, 20)} {
			for _, s := range append(otherSubjects(), aSubject()) {
				if got := s.who(r, l); len(got) != 0 || s.meets(r, l) {
					t.Errorf("%d nodes: %v", nodes, got)
				}
			}
		}
	}
}

// TestWhoOfEveryRowOfNodes: whichever nodes voted, in rising and falling order, they are told rising, and Meet where they are Quorum (P6.1).
func TestWhoOfEveryRowOfNodes(t *testing.T) {
	s := aSubject()
	for _, nodes := range []int{1, 2, 3, 4, 7} {
		r := seal.New(nodes, namedSeed)
		for row := range uint(1) << nodes {
			var want []int
			for n := range nodes {
				if row>>n&1 == 1 {
					want = append(want, n)
				}
			}
			l := s.by(r, want...)
			sameNodes(t, s.who(r, l), want)
			slices.Reverse(l)
			sameNodes(t, s.who(r, l), want)
			if got := s.meets(r, l); got != (bits.OnesCount(row) >= seal.Quorum(nodes)) {
				t.Errorf("%v of %d nodes: %v", want, nodes, got)
			}
		}
	}
}

func TestWhoOfVotesInAnyOrder(t *testing.T) {
	s, r := aSubject(), seal.New(4, namedSeed)
	for a := range 4 {
		for b := range 4 {
			for c := range 4 {
				for d := range 4 {
					want := []int{a, b, c, d}
					l := s.by(r, want...)
					slices.Sort(want)
					want = slices.Compact(want)
					sameNodes(t, s.who(r, l), want)
					if got := s.meets(r, l); got != (len(want) >= 3) {
						t.Errorf("votes of %d %d %d %d: %v", a, b, c, d, got)
					}
				}
			}
		}
	}
}

// TestWhoOfOneNodeMoreThanOnce: it counts once, wherever its votes stand (P6.1, P6.3).
func TestWhoOfOneNodeMoreThanOnce(t *testing.T) {
	s := aSubject()
	for nodes := 1; nodes <= api.MaxNodes; nodes++ {
		r := seal.New(nodes, namedSeed)
		for from := range nodes {
			for count := 1; count <= api.MaxNodes; count++ {
				l := slices.Repeat(s.by(r, from), count)
				sameNodes(t, s.who(r, l), []int{from})
				if got := s.meets(r, l); got != (nodes == 1) {
					t.Errorf("node %d of %d, %d times: %v", from, nodes, count, got)
				}
			}
		}
	}
	r := seal.New(7, namedSeed)
	sameNodes(t, s.who(r, s.by(r, 6, 0, 6, 3, 0, 3, 6, 1, 1)), []int{0, 1, 3, 6})
}

// badVotes are votes that say they are of that subject, but are no node's.
func badVotes(r *seal.Ring, s subject) []api.Vote {
	last := r.Nodes() - 1
	v := s.cast(r, last)
	turned, noughts, foreign, other := v, v, v, v
	turned.Tag[7] ^= 4
	noughts.Tag = api.Hash{}
	foreign.Tag = s.cast(seal.New(r.Nodes(), otherSeed), last).Tag
	other.Tag = subject{s.kind + 1, s.slot, s.view, s.sum}.cast(r, last).Tag
	bad := []api.Vote{turned, noughts, foreign, other, s.cast(r, -1), s.cast(r, r.Nodes()), s.cast(r, 1<<32)}
	lent := s.cast(r, r.Nodes())
	lent.Tag = tagOfOthers(namedSeed, lent)
	return append(bad, lent)
}

func TestWhoPassesOverVotesThatAreNotGood(t *testing.T) {
	s := aSubject()
	for nodes := 1; nodes <= api.MaxNodes; nodes++ {
		r := seal.New(nodes, namedSeed)
		for i, bad := range badVotes(r, s) {
			if cert.Good(r, bad) {
				t.Fatalf("%d nodes: bad vote %d is Good", nodes, i)
			}
			sameNodes(t, s.who(r, []api.Vote{bad}), nil)
			if s.meets(r, []api.Vote{bad}) || s.meets(r, slices.Repeat([]api.Vote{bad}, 10)) {
				t.Errorf("%d nodes: bad vote %d is enough", nodes, i)
			}
			first := s.cast(r, 0)
			for _, l := range [][]api.Vote{{bad, first}, {first, bad}, {bad, first, bad}, {first, bad, first}} {
				sameNodes(t, s.who(r, l), []int{0})
			}
			// A node's bad vote does not spoil its good one, whichever comes first.
			own := s.cast(r, nodes-1)
			sameNodes(t, s.who(r, []api.Vote{bad, own}), []int{nodes - 1})
			sameNodes(t, s.who(r, []api.Vote{own, bad}), []int{nodes - 1})
		}
	}
}

// TestOneBadVoteIsOneTooFew: Quorum votes of which one is not Good are not enough (P6.1).
func TestOneBadVoteIsOneTooFew(t *testing.T) {
	s := aSubject()
	for nodes := 1; nodes <= api.MaxNodes; nodes++ {
		r := seal.New(nodes, namedSeed)
		for at := range seal.Quorum(nodes) {
			l := s.by(r, nodesUpTo(seal.Quorum(nodes))...)
			l[at].Tag[31] ^= 1
			if s.meets(r, l) || len(s.who(r, l)) != seal.Quorum(nodes)-1 || slices.Contains(s.who(r, l), at) {
				t.Errorf("%d nodes, the vote of %d is bad: %v", nodes, at, s.who(r, l))
			}
		}
	}
}

// TestVotesOnOtherThingsDoNotCount: they are Good, but of another kind, slot, view or sum (P6.1, P6.3).
func TestVotesOnOtherThingsDoNotCount(t *testing.T) {
	s, r := aSubject(), seal.New(4, namedSeed)
	for _, other := range otherSubjects() {
		l := other.by(r, 0, 1, 2, 3)
		for _, v := range l {
			if !cert.Good(r, v) {
				t.Fatalf("%+v: not Good", other)
			}
		}
		sameNodes(t, s.who(r, l), nil)
		sameNodes(t, other.who(r, l), []int{0, 1, 2, 3})
		if s.meets(r, l) || !other.meets(r, l) {
			t.Errorf("%+v counts for %+v", other, s)
		}
		mixed := []api.Vote{l[0], s.cast(r, 3), l[1], s.cast(r, 1), l[2], l[3], l[1]}
		sameNodes(t, s.who(r, mixed), []int{1, 3})
		sameNodes(t, other.who(r, mixed), []int{0, 1, 2, 3})
		if s.meets(r, mixed) || !other.meets(r, mixed) {
			t.Errorf("%+v and %+v are mixed up", other, s)
		}
	}
}

// TestNumbersThatAreLaidAlikeAreNotAlike: a seal of slot 0 holds for slot -1 too, but a vote of one is none of the other (P6.3).
func TestNumbersThatAreLaidAlikeAreNotAlike(t *testing.T) {
	r := seal.New(4, namedSeed)
	nought := subject{0, 0, 0, sumOf("x")}
	for _, s := range []subject{{-1, 0, 0, nought.sum}, {0, -1, 0, nought.sum}, {0, 0, -1, nought.sum}, {-300, -300, -300, nought.sum}} {
		l := s.by(r, 0, 1, 2, 3)
		if l[2].Tag != nought.cast(r, 2).Tag || !cert.Good(r, l[2]) {
			t.Fatal("the seals are unlike")
		}
		sameNodes(t, nought.who(r, l), nil)
		sameNodes(t, s.who(r, nought.by(r, 0, 1, 2, 3)), nil)
		sameNodes(t, s.who(r, l), []int{0, 1, 2, 3})
		if nought.meets(r, l) || !s.meets(r, l) {
			t.Errorf("%+v", s)
		}
	}
}

// TestOnlyTheFirstMaxNodesVotesAreLookedAt: also where none of them counts (P6.1).
func TestOnlyTheFirstMaxNodesVotesAreLookedAt(t *testing.T) {
	s := aSubject()
	for nodes := 1; nodes <= api.MaxNodes; nodes++ {
		r := seal.New(nodes, namedSeed)
		fillers := append(badVotes(r, s), s.cast(r, 0), otherSubjects()[0].cast(r, 0), api.Vote{})
		for _, filler := range fillers {
			for ahead := range 13 {
				l := slices.Repeat([]api.Vote{filler}, ahead)
				for range 3 {
					l = append(l, s.by(r, nodesUpTo(nodes)...)...)
				}
				want := nodesThatVoted(r, l, s)
				sameNodes(t, s.who(r, l), want)
				if got := s.meets(r, l); got != (len(want) >= seal.Quorum(nodes)) {
					t.Errorf("%d nodes, %d ahead: %v", nodes, ahead, got)
				}
			}
		}
	}
}

func TestTheTenthVoteCountsAndTheEleventhDoesNot(t *testing.T) {
	s, r := aSubject(), seal.New(4, namedSeed)
	l := append(slices.Repeat(s.by(r, 0), 8), s.by(r, 1, 2, 3)...)
	if len(l) != 11 {
		t.Fatal(len(l))
	}
	sameNodes(t, s.who(r, l[:9]), []int{0, 1})
	sameNodes(t, s.who(r, l[:10]), []int{0, 1, 2})
	sameNodes(t, s.who(r, l), []int{0, 1, 2})
	if s.meets(r, l[:9]) || !s.meets(r, l[:10]) || !s.meets(r, l) {
		t.Error("nine, ten, eleven votes")
	}
	other := otherSubjects()[1]
	behind := append(other.by(r, 0, 1, 2, 3, 0, 1, 2, 3, 0), s.by(r, 2, 0, 1, 3)...)
	sameNodes(t, s.who(r, behind), []int{2})
	behind = append(other.by(r, 0), behind...)
	sameNodes(t, s.who(r, behind), nil)
	if s.meets(r, behind) || s.meets(r, slices.Repeat(behind, 1000)) {
		t.Error("what stands behind the first ten counts")
	}
}

// TestMeetsOfEachNumberOfNodes: one vote fewer than Quorum, just Quorum, and more, by the first nodes and by the last (P6.1).
func TestMeetsOfEachNumberOfNodes(t *testing.T) {
	quorums := []int{0, 1, 2, 3, 3, 4, 5, 5, 6, 7, 7}
	s := aSubject()
	for nodes := 1; nodes <= api.MaxNodes; nodes++ {
		r := seal.New(nodes, namedSeed)
		for count := range nodes + 1 {
			all := nodesUpTo(nodes)
			first, last := all[:count], all[nodes-count:]
			want := count >= quorums[nodes]
			if s.meets(r, s.by(r, first...)) != want || s.meets(r, s.by(r, last...)) != want {
				t.Errorf("%d of %d: not %v", count, nodes, want)
			}
			sameNodes(t, s.who(r, s.by(r, last...)), last)
		}
		short := s.by(r, nodesUpTo(quorums[nodes]-1)...)
		if padded := append(short, short...); s.meets(r, padded) {
			t.Errorf("%d nodes: one fewer than Quorum, twice, is enough", nodes)
		}
	}
}

// TestVotesOfAGreaterRing: nodes that the ring lacks do not count in it (P6.1).
func TestVotesOfAGreaterRing(t *testing.T) {
	s, whole := aSubject(), seal.New(api.MaxNodes, namedSeed)
	l := s.by(whole, 9, 8, 7, 6, 5, 4, 3, 2, 1, 0)
	for nodes := 1; nodes <= api.MaxNodes; nodes++ {
		r := seal.New(nodes, namedSeed)
		sameNodes(t, s.who(r, l), nodesUpTo(nodes))
		for short := range 11 {
			want := max(nodes-short, 0) // the last votes are those of the first nodes
			if got := len(s.who(r, l[:10-short])); got != want || s.meets(r, l[:10-short]) != (want >= seal.Quorum(nodes)) {
				t.Errorf("%d nodes, %d votes: %d", nodes, 10-short, got)
			}
		}
	}
}

// TestWhoOfMixedRows: many rows of votes that count and votes that do not, each held against nodesThatVoted (P6.1).
func TestWhoOfMixedRows(t *testing.T) {
	s, state := aSubject(), uint32(1)
	next := func(below int) int {
		state = state*1664525 + 1013904223
		return int(state>>16) % below
	}
	for _, nodes := range []int{1, 2, 4, 7, 10} {
		r := seal.New(nodes, namedSeed)
		bad, others := badVotes(r, s), otherSubjects()
		for range 300 {
			var l []api.Vote
			for range next(15) {
				switch next(6) {
				case 0:
					l = append(l, bad[next(len(bad))])
				case 1:
					l = append(l, others[next(len(others))].cast(r, next(nodes)))
				default:
					l = append(l, s.cast(r, next(nodes)))
				}
			}
			want := nodesThatVoted(r, l, s)
			sameNodes(t, s.who(r, l), want)
			if got := s.meets(r, l); got != (len(want) >= seal.Quorum(nodes)) {
				t.Errorf("%d nodes, %v: %v", nodes, want, got)
			}
		}
	}
}
