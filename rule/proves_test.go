package rule_test

import (
	"math"
	"slices"
	"strings"
	"testing"

	"seneschal/api"
	"seneschal/cert"
	"seneschal/rule"
	"seneschal/seal"
)

func TestProvesOfNoVotes(t *testing.T) {
	for nodes := 1; nodes <= api.MaxNodes; nodes++ {
		for _, l := range [][]api.Vote{nil, {}, make([]api.Vote, 0, 20), proof(ringOf(nodes), 2, "x")[:0]} {
			for _, n := range farNumbers() {
				proves(t, ringOf(nodes), l, slot, n, "x", -1)
				proves(t, ringOf(nodes), l, n, 3, "", -1)
			}
		}
	}
}

// TestProvesOfQuorumOfFewerAndOfMore: by the first nodes and by the last, in rising and in falling order (P7.1).
func TestProvesOfQuorumOfFewerAndOfMore(t *testing.T) {
	quorums := []int{0, 1, 2, 3, 3, 4, 5, 5, 6, 7, 7}
	for nodes := 1; nodes <= api.MaxNodes; nodes++ {
		r, all := ringOf(nodes), nodesUpTo(nodes)
		for count := range nodes + 1 {
			want := -1
			if count >= quorums[nodes] {
				want = 2
			}
			for _, by := range [][]int{all[:count], all[nodes-count:]} {
				l := prepares(r, 2, "x", by...)
				proves(t, r, l, slot, 3, "x", want)
				slices.Reverse(l)
				proves(t, r, l, slot, 3, "x", want)
			}
		}
		few := short(r, 2, "x")
		proves(t, r, append(slices.Clone(few), few...), slot, 3, "x", -1)
		enough := proof(r, 2, "x")
		proves(t, r, append(slices.Clone(enough), enough...)[:min(2*len(enough), 10)], slot, 3, "x", 2)
	}
}

// TestProvesOfVotesOnOtherThings: enough Good votes, but of another kind, slot or value than is asked of (P7.1).
func TestProvesOfVotesOnOtherThings(t *testing.T) {
	for _, nodes := range []int{1, 4, 7, 10} {
		r, all := ringOf(nodes), nodesUpTo(nodes)
		for _, kind := range []int{api.VoteCommit, api.VoteMark, 0, 4, -1, 1 + 1<<32, math.MinInt, math.MaxInt} {
			proves(t, r, votes(r, kind, slot, 2, "x", all...), slot, 3, "x", -1)
		}
		for _, other := range []int{4, 6, 0, 2, -5, 5 + 1<<32, 5 - 256, math.MinInt, math.MaxInt} {
			proves(t, r, votes(r, api.VotePrepare, other, 2, "x", all...), slot, 3, "x", -1)
			proves(t, r, votes(r, api.VotePrepare, slot, 2, "x", all...), other, 3, "x", -1)
			proves(t, r, votes(r, api.VotePrepare, other, 2, "x", all...), other, 3, "x", 2)
		}
		for _, value := range []string{"", "y", "X", "xx", "x\x00", "\x00", strings.Repeat("x", 200)} {
			proves(t, r, prepares(r, 2, "x", all...), slot, 3, value, -1)
			proves(t, r, prepares(r, 2, value, all...), slot, 3, "x", -1)
			proves(t, r, prepares(r, 2, value, all...), slot, 3, value, 2)
		}
	}
}

// TestVotesOnOtherThingsAreOneTooFew: one of just enough is of another kind, slot, view or value, wherever it stands (P7.1).
func TestVotesOnOtherThingsAreOneTooFew(t *testing.T) {
	for nodes := 2; nodes <= api.MaxNodes; nodes++ {
		r := ringOf(nodes)
		for at := range proof(r, 2, "x") {
			for _, other := range [][]api.Vote{
				votes(r, api.VoteCommit, slot, 2, "x", at), votes(r, api.VotePrepare, slot+1, 2, "x", at),
				prepares(r, 1, "x", at), prepares(r, 3, "x", at), prepares(r, 2, "y", at),
			} {
				l := proof(r, 2, "x")
				l[at] = other[0]
				proves(t, r, l, slot, 4, "x", -1)
			}
		}
	}
}

// TestVotesOfTwoViewsAreNotOne: two views that are enough only together prove neither of them (P7.1).
func TestVotesOfTwoViewsAreNotOne(t *testing.T) {
	for nodes := 2; nodes <= api.MaxNodes; nodes++ {
		r, all := ringOf(nodes), nodesUpTo(nodes)
		quorum := seal.Quorum(nodes)
		for count := 1; count < quorum; count++ {
			if nodes-count >= quorum {
				continue
			}
			elder, later := prepares(r, 1, "x", all[:count]...), prepares(r, 2, "x", all[count:]...)
			proves(t, r, append(slices.Clone(elder), later...), slot, 3, "x", -1)
			proves(t, r, append(slices.Clone(later), elder...), slot, 3, "x", -1)
		}
	}
}

// TestTheFirstVoteNamesTheView: where it is of another view than the others, they prove nothing; votes of other views behind it do no harm (P7.1).
func TestTheFirstVoteNamesTheView(t *testing.T) {
	for nodes := 2; nodes <= api.MaxNodes; nodes++ {
		r := ringOf(nodes)
		enough := proof(r, 2, "x")
		for _, view := range []int{0, 1, 3, 4, 9, -1, math.MinInt, math.MaxInt} {
			other := prepares(r, view, "x", nodes-1)
			proves(t, r, append(slices.Clone(other), enough...), slot, 5, "x", -1)
			proves(t, r, append(slices.Clone(enough), other...), slot, 5, "x", 2)
			proves(t, r, slices.Concat(enough[:1], other, enough[1:]), slot, 5, "x", 2)
		}
		// Of two views that both have enough votes the first one's is told.
		if 2*len(enough) <= api.MaxNodes {
			proves(t, r, slices.Concat(enough, proof(r, 1, "x")), slot, 5, "x", 2)
			proves(t, r, slices.Concat(proof(r, 1, "x"), enough), slot, 5, "x", 1)
		}
	}
}

// TestAFirstVoteThatDoesNotCountStillNamesTheView: its View is taken, whether it is Good or not, and on whatever it is (P7.1).
func TestAFirstVoteThatDoesNotCountStillNamesTheView(t *testing.T) {
	for nodes := 1; nodes <= api.MaxNodes; nodes++ {
		r := ringOf(nodes)
		enough, few := proof(r, 2, "x"), short(r, 2, "x")
		for _, first := range votesThatDoNotCount(r, 2, nodes-1) {
			ahead := []api.Vote{first}
			proves(t, r, ahead, slot, 3, "x", -1)
			proves(t, r, slices.Repeat(ahead, 10), slot, 3, "x", -1)
			proves(t, r, append(slices.Clone(ahead), few...), slot, 3, "x", -1)
			proves(t, r, append(slices.Clone(ahead), enough...), slot, 3, "x", 2)
			proves(t, r, append(slices.Clone(ahead), enough...), slot, 2, "x", -1)
		}
		for _, first := range votesThatDoNotCount(r, 1, nodes-1) {
			proves(t, r, append([]api.Vote{first}, enough...), slot, 3, "x", -1)
		}
	}
}

// votesThatDoNotCount are of a view, but not Good, or on other things.
func votesThatDoNotCount(r *seal.Ring, view, from int) []api.Vote {
	own := prepares(r, view, "x", from)[0]
	turned, noughts, lent := own, own, own
	turned.Tag[31] ^= 1
	noughts.Tag = api.Hash{}
	lent.Tag = prepares(seal.New(r.Nodes(), otherSeed), view, "x", from)[0].Tag
	return []api.Vote{
		turned, noughts, lent, prepares(r, view, "y", from)[0], prepares(r, view, "x", r.Nodes())[0], prepares(r, view, "x", -1)[0],
		votes(r, api.VoteCommit, slot, view, "x", from)[0], votes(r, api.VotePrepare, slot-1, view, "x", from)[0], {View: view},
	}
}

// TestOneVoteThatIsNotGoodIsOneTooFew: wherever it stands (P7.1).
func TestOneVoteThatIsNotGoodIsOneTooFew(t *testing.T) {
	for nodes := 1; nodes <= api.MaxNodes; nodes++ {
		r := ringOf(nodes)
		for at := range proof(r, 2, "x") {
			l := proof(r, 2, "x")
			l[at].Tag[0] ^= 0x80
			proves(t, r, l, slot, 3, "x", -1)
		}
		l := prepares(seal.New(nodes, otherSeed), 2, "x", nodesUpTo(nodes)...)
		proves(t, r, l, slot, 3, "x", -1)
	}
}

// TestViewsBelowAndAbove: a view is proved where it is 0 or more and below, and nowhere else (P7.1).
func TestViewsBelowAndAbove(t *testing.T) {
	for _, nodes := range []int{1, 4, 7, 10} {
		r := ringOf(nodes)
		for view := -3; view <= api.MaxView+3; view++ {
			l := proof(r, view, "x")
			for below := -3; below <= api.MaxView+5; below++ {
				want := -1
				if view >= 0 && view < below {
					want = view
				}
				proves(t, r, l, slot, below, "x", want)
			}
		}
	}
}

// TestViewsThatAreFar: also views beyond MaxView, and those that VoteBody lays alike, are held against below as they are (P7.1, W10).
func TestViewsThatAreFar(t *testing.T) {
	r := ringOf(4)
	for _, view := range farNumbers() {
		l := proof(r, view, "x")
		if !cert.Meets(r, l, api.VotePrepare, slot, view, cert.ValueSum([]byte("x"))) {
			t.Fatal(view)
		}
		for _, below := range append(farNumbers(), view) {
			want := -1
			if view >= 0 && view < below {
				want = view
			}
			proves(t, r, l, slot, below, "x", want)
		}
	}
	proves(t, r, proof(r, 0, "x"), slot, 1, "x", 0)
	proves(t, r, proof(r, 0, "x"), slot, 0, "x", -1)
}

// TestVotesBehindTheFirstTen: they are not looked at, whether those ahead of them count or not (P7.1, P6.1).
func TestVotesBehindTheFirstTen(t *testing.T) {
	for nodes := 1; nodes <= api.MaxNodes; nodes++ {
		r := ringOf(nodes)
		enough := proof(r, 2, "x")
		for _, filler := range append(votesThatDoNotCount(r, 2, 0), enough[0]) {
			for ahead := range 13 {
				l := append(slices.Repeat([]api.Vote{filler}, ahead), enough...)
				want := provedByOthers(nodes, l, slot, 3, "x")
				proves(t, r, l, slot, 3, "x", want)
				if fits := ahead+len(enough) <= 10; fits && want != 2 {
					t.Errorf("%d nodes, %d ahead: %d", nodes, ahead, want)
				}
			}
			proves(t, r, append(slices.Repeat([]api.Vote{filler}, 100000), enough...), slot, 3, "x", provedByOthers(nodes, []api.Vote{filler}, slot, 3, "x"))
		}
	}
	r := ringOf(4)
	l := append(slices.Repeat(prepares(r, 2, "x", 0), 8), prepares(r, 2, "x", 1, 2, 3)...)
	proves(t, r, l[:9], slot, 3, "x", -1)
	proves(t, r, l[:10], slot, 3, "x", 2)
	proves(t, r, append(slices.Repeat(l[:1], 9), prepares(r, 2, "x", 1, 2, 3)...), slot, 3, "x", -1)
}

// TestNoValueIsAValue: nil and empty are one, and neither is some (P7.1, W5).
func TestNoValueIsAValue(t *testing.T) {
	for _, nodes := range []int{1, 4, 7, 10} {
		r := ringOf(nodes)
		nothing, some := proof(r, 2, ""), proof(r, 2, "x")
		for _, value := range [][]byte{nil, {}, []byte("x")[:0]} {
			if view, ok := rule.Proves(r, nothing, slot, 3, value); view != 2 || !ok {
				t.Errorf("%d nodes, no value: %d %v", nodes, view, ok)
			}
			if view, ok := rule.Proves(r, some, slot, 3, value); view != -1 || ok {
				t.Errorf("%d nodes, some value for none: %d %v", nodes, view, ok)
			}
		}
		proves(t, r, nothing, slot, 3, "x", -1)
		proves(t, r, nothing, slot, 3, "\x00", -1)
		for _, size := range []int{1, 55, 56, 63, 64, 65, 200, 201, 100000} {
			value := strings.Repeat("\xff", size)
			proves(t, r, proof(r, 0, value), slot, 1, value, 0)
			proves(t, r, proof(r, 0, value), slot, 1, value[1:], -1)
		}
	}
}

func TestNothingIsProvedToANilRing(t *testing.T) {
	for _, none := range []*seal.Ring{nil, {}} {
		for nodes := 1; nodes <= api.MaxNodes; nodes++ {
			for _, view := range farNumbers() {
				proves(t, none, proof(ringOf(nodes), view, "x"), slot, math.MaxInt, "x", -1)
				proves(t, none, prepares(none, view, "x", nodesUpTo(nodes)...), slot, math.MaxInt, "x", -1)
			}
		}
		proves(t, none, nil, slot, 3, "x", -1)
		proves(t, none, make([]api.Vote, 10), 0, 3, "", -1)
	}
}

// TestProvesOfAGreaterRing: nodes that the ring lacks do not count in it (P7.1).
func TestProvesOfAGreaterRing(t *testing.T) {
	whole := ringOf(api.MaxNodes)
	l := prepares(whole, 2, "x", 9, 8, 7, 6, 5, 4, 3, 2, 1, 0)
	for nodes := 1; nodes <= api.MaxNodes; nodes++ {
		for count := range 11 {
			proves(t, ringOf(nodes), l[:count], slot, 3, "x", provedByOthers(nodes, l[:count], slot, 3, "x"))
		}
		proves(t, ringOf(nodes), l, slot, 3, "x", 2)
	}
}

// mixedVotes is a row of votes that count and votes that do not, mostly of one view.
func mixedVotes(c *chance, r *seal.Ring) []api.Vote {
	view, value := c.below(4), []string{"x", "y", ""}[c.below(3)]
	var l []api.Vote
	for range c.below(14) {
		from := c.below(r.Nodes())
		switch c.below(9) {
		case 0:
			bad := votesThatDoNotCount(r, view, from)
			l = append(l, bad[c.below(len(bad))])
		case 1:
			l = append(l, prepares(r, c.below(4), value, from)...)
		default:
			l = append(l, prepares(r, view, value, from)...)
		}
	}
	return l
}

func TestProvesOfMixedRows(t *testing.T) {
	c, proved := chance(1), 0
	for _, nodes := range []int{1, 2, 4, 7, 10} {
		r := ringOf(nodes)
		for range 400 {
			l, below := mixedVotes(&c, r), c.below(6)
			for _, value := range []string{"x", "y", ""} {
				want := provedByOthers(nodes, l, slot, below, value)
				proves(t, r, l, slot, below, value, want)
				if want >= 0 {
					proved++
				}
			}
		}
	}
	if proved < 100 {
		t.Error("only so many rows prove something:", proved)
	}
}
