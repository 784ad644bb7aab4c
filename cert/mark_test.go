package cert_test

import (
	"math"
	"slices"
	"testing"

	"seneschal/api"
	"seneschal/cert"
	"seneschal/digest"
	"seneschal/seal"
	"seneschal/wire"
)

// markOfOthers is the sum of a mark's bytes as the library works it out, also of one that may not be.
func markOfOthers(m api.Mark) api.Hash {
	b := []byte{3}
	for _, n := range []int{m.Kind, m.Producer, m.Epoch, m.Txn} {
		b = appendNum(b, n)
	}
	return sumOf(string(b))
}

// onMark is what votes on a mark are of.
func onMark(m api.Mark) subject { return subject{3, 0, 0, markOfOthers(m)} }

func aMark() api.Mark { return api.Mark{Kind: 2, Producer: 1, Epoch: 2, Txn: 3} }

// eachMark goes along every mark that may be.
func eachMark(yield func(api.Mark) bool) {
	for kind := 1; kind <= 3; kind++ {
		for producer := range 8 {
			for epoch := range 101 {
				for txn := range 101 {
					if kind == 1 && txn > 0 {
						break
					}
					if !yield(api.Mark{Kind: kind, Producer: producer, Epoch: epoch, Txn: txn}) {
						return
					}
				}
			}
		}
	}
}

// edgeMarks are marks that may be, each field at its ends.
func edgeMarks() []api.Mark {
	var all []api.Mark
	for kind := 1; kind <= 3; kind++ {
		for _, producer := range []int{0, 1, 7} {
			for _, epoch := range []int{0, 2, 100} {
				for _, txn := range []int{0, 3, 100} {
					if kind == 1 && txn > 0 {
						continue
					}
					all = append(all, api.Mark{Kind: kind, Producer: producer, Epoch: epoch, Txn: txn})
				}
			}
		}
	}
	return all
}

// marksThatMayNotBe have one field beyond its bounds, or a Txn where their kind has none.
func marksThatMayNotBe() []api.Mark {
	all := []api.Mark{{}, {Kind: 0, Producer: 1, Epoch: 2, Txn: 3}, {Kind: 4, Producer: 1, Epoch: 2, Txn: 3}}
	far := []int{math.MinInt, -1 << 32, -256, 1 << 32, 1 << 62, math.MaxInt}
	for kind := 1; kind <= 3; kind++ {
		for _, n := range append(far, -1, 8) {
			all = append(all, api.Mark{Kind: kind, Producer: n, Epoch: 2})
		}
		for _, n := range append(far, -1, 101) {
			all = append(all, api.Mark{Kind: kind, Producer: 1, Epoch: n}, api.Mark{Kind: kind, Producer: 1, Epoch: 2, Txn: n})
		}
		for _, n := range far {
			all = append(all, api.Mark{Kind: n, Producer: 1, Epoch: 2}, api.Mark{Kind: kind + n, Producer: 1, Epoch: 2})
		}
	}
	for _, txn := range []int{1, 2, 3, 99, 100} {
		all = append(all, api.Mark{Kind: 1, Txn: txn}, api.Mark{Kind: 1, Producer: 7, Epoch: 100, Txn: txn})
	}
	return all
}

// TestMarkVoteOfEveryMark: a VoteMark of slot 0 and view 0, on the sum of the mark's bytes (P6.2).
func TestMarkVoteOfEveryMark(t *testing.T) {
	r, count := seal.New(4, namedSeed), 0
	for m := range eachMark {
		from := count % 4
		v, ok := cert.MarkVote(r, m, from)
		want := api.Vote{Kind: 3, Sum: markOfOthers(m), From: from}
		want.Tag = tagOfOthers(namedSeed, want)
		if !ok || v != want {
			t.Fatalf("%+v by %d: %+v %v, not %+v", m, from, v, ok, want)
		}
		count++
	}
	if count != 8*101*(1+2*101) {
		t.Error(count)
	}
}

func TestMarkVoteFieldByField(t *testing.T) {
	for _, nodes := range []int{1, 4, 7, api.MaxNodes} {
		r := seal.New(nodes, namedSeed)
		for _, m := range edgeMarks() {
			b, err := wire.EncodeMark(m)
			if err != api.OK {
				t.Fatal(m)
			}
			for from := range nodes {
				v, ok := cert.MarkVote(r, m, from)
				if !ok || v.Kind != api.VoteMark || v.Slot != 0 || v.View != 0 || v.Sum != digest.Sum(b) || v.From != from {
					t.Errorf("%+v by %d: %+v %v", m, from, v, ok)
				}
				if v.Tag != r.Seal(from, wire.VoteBody(v)) || !cert.Good(r, v) {
					t.Errorf("%+v by %d: the seal is %x", m, from, v.Tag)
				}
			}
		}
	}
}

func TestMarkVoteOfMarksThatMayNotBe(t *testing.T) {
	for _, r := range []*seal.Ring{seal.New(1, namedSeed), seal.New(4, namedSeed), seal.New(10, namedSeed), nil} {
		for _, m := range marksThatMayNotBe() {
			for _, from := range append(noNodes(4), 0, 1, 3, 9) {
				if v, ok := cert.MarkVote(r, m, from); ok || v != (api.Vote{}) {
					t.Errorf("%+v by %d: %+v %v", m, from, v, ok)
				}
			}
		}
	}
}

// TestMarkVoteByNoNode: the mark may be, so there is a vote, but one with noughts for a seal (P6.1, P6.2).
func TestMarkVoteByNoNode(t *testing.T) {
	for nodes := 1; nodes <= api.MaxNodes; nodes++ {
		r := seal.New(nodes, namedSeed)
		for _, m := range edgeMarks() {
			for _, from := range noNodes(nodes) {
				v, ok := cert.MarkVote(r, m, from)
				if want := (api.Vote{Kind: 3, Sum: markOfOthers(m), From: from}); !ok || v != want || cert.Good(r, v) {
					t.Errorf("%+v by %d of %d: %+v %v", m, from, nodes, v, ok)
				}
			}
		}
	}
}

// marksBy are the votes on a mark by so many nodes, the last ones first.
func marksBy(t *testing.T, r *seal.Ring, m api.Mark, count int) []api.Vote {
	t.Helper()
	var l []api.Vote
	for n := range count {
		v, ok := cert.MarkVote(r, m, r.Nodes()-1-n)
		if !ok {
			t.Fatalf("%+v", m)
		}
		l = append(l, v)
	}
	return l
}

func TestAcceptsOfQuorumVotesAndOfFewer(t *testing.T) {
	for nodes := 1; nodes <= api.MaxNodes; nodes++ {
		r := seal.New(nodes, namedSeed)
		for _, m := range edgeMarks() {
			for count := range nodes + 1 {
				l := marksBy(t, r, m, count)
				want := count >= seal.Quorum(nodes)
				if got := cert.Accepts(r, api.Cert{Mark: m, Votes: l}); got != want {
					t.Errorf("%+v, %d of %d: %v", m, count, nodes, got)
				}
			}
			short := marksBy(t, r, m, seal.Quorum(nodes)-1)
			twice := append(slices.Clone(short), short...)
			if cert.Accepts(r, api.Cert{Mark: m, Votes: twice}) {
				t.Errorf("%+v, %d nodes: one fewer than Quorum, twice, is enough", m, nodes)
			}
		}
	}
}

// TestAcceptsOfVotesOnAnotherMark: each mark is Accepted by the votes on it, and by those on no other one (P6.2).
func TestAcceptsOfVotesOnAnotherMark(t *testing.T) {
	r := seal.New(4, namedSeed)
	all := edgeMarks()
	for _, voted := range all {
		l := marksBy(t, r, voted, 4)
		for _, m := range all {
			if got := cert.Accepts(r, api.Cert{Mark: m, Votes: l}); got != (m == voted) {
				t.Errorf("%+v by votes on %+v: %v", m, voted, got)
			}
		}
	}
}

// TestAcceptsOfVotesOfAnotherKindSlotOrView: they are on the mark's own sum, but not on the mark (P6.2).
func TestAcceptsOfVotesOfAnotherKindSlotOrView(t *testing.T) {
	m := aMark()
	sum := onMark(m).sum
	for _, nodes := range []int{1, 4, 7, 10} {
		r := seal.New(nodes, namedSeed)
		all := nodesUpTo(nodes)
		if !cert.Accepts(r, api.Cert{Mark: m, Votes: onMark(m).by(r, all...)}) {
			t.Errorf("%d nodes: not accepted", nodes)
		}
		others := []subject{{1, 0, 0, sum}, {2, 0, 0, sum}, {0, 0, 0, sum}, {4, 0, 0, sum}, {3, 1, 0, sum}, {3, 0, 1, sum}, {3, -1, 0, sum}, {3, 0, -1, sum}, {3, 63, 8, sum}}
		for _, s := range others {
			if cert.Accepts(r, api.Cert{Mark: m, Votes: s.by(r, all...)}) {
				t.Errorf("%d nodes: accepted by %+v", nodes, s)
			}
			// One vote fewer than Quorum on the mark, and all of these: not enough still.
			l := append(onMark(m).by(r, all[:seal.Quorum(nodes)-1]...), s.by(r, all[seal.Quorum(nodes)-1:]...)...)
			if cert.Accepts(r, api.Cert{Mark: m, Votes: l}) {
				t.Errorf("%d nodes: %+v counts", nodes, s)
			}
		}
	}
}

func TestAcceptsOfBadVotes(t *testing.T) {
	r, m := seal.New(4, namedSeed), aMark()
	for at := range 3 {
		l := marksBy(t, r, m, 3)
		l[at].Tag[5] ^= 1
		if cert.Accepts(r, api.Cert{Mark: m, Votes: l}) {
			t.Error("the seal is turned:", at)
		}
	}
	if cert.Accepts(r, api.Cert{Mark: m, Votes: badVotes(r, onMark(m))}) {
		t.Error("accepted by bad votes")
	}
	if cert.Accepts(r, api.Cert{Mark: m, Votes: onMark(m).by(seal.New(4, otherSeed), 0, 1, 2, 3)}) {
		t.Error("accepted by another ring's votes")
	}
	ahead := slices.Repeat(marksBy(t, r, m, 1), 8)
	if cert.Accepts(r, api.Cert{Mark: m, Votes: append(ahead, marksBy(t, r, m, 2)...)}) {
		t.Error("two nodes")
	}
	late := append(slices.Clone(ahead), onMark(m).by(r, 0, 1, 2)...)
	if !cert.Accepts(r, api.Cert{Mark: m, Votes: late}) || cert.Accepts(r, api.Cert{Mark: m, Votes: append(ahead[:1:1], late...)}) {
		t.Error("the tenth vote, the eleventh vote")
	}
	for _, l := range [][]api.Vote{nil, {}} {
		if cert.Accepts(r, api.Cert{Mark: m, Votes: l}) {
			t.Error("accepted by nobody")
		}
	}
}

// TestAcceptsOfMarksThatMayNotBe: whatever is voted, on whatever sum one could take for theirs (P6.2).
func TestAcceptsOfMarksThatMayNotBe(t *testing.T) {
	for _, nodes := range []int{1, 4, api.MaxNodes} {
		r := seal.New(nodes, namedSeed)
		all := nodesUpTo(nodes)
		for _, m := range marksThatMayNotBe() {
			for _, sum := range []api.Hash{markOfOthers(m), sumOf(""), {}, markOfOthers(aMark()), markOfOthers(api.Mark{})} {
				l := subject{3, 0, 0, sum}.by(r, all...)
				if cert.Accepts(r, api.Cert{Mark: m, Votes: l}) {
					t.Errorf("%+v is accepted by votes on %x", m, sum)
				}
			}
			if cert.Accepts(r, api.Cert{Mark: m}) {
				t.Errorf("%+v is accepted by nobody", m)
			}
		}
	}
}
