package cert_test

import (
	"bytes"
	"slices"
	"testing"

	"seneschal/api"
	"seneschal/cert"
	"seneschal/seal"
)

var spareVote = api.Vote{Kind: -7, Slot: -7, View: -7, Sum: fullHash, From: -7, Tag: fullHash}

// TestANilRing: nobody's word is taken, and nobody is enough (P6.3).
func TestANilRing(t *testing.T) {
	var none *seal.Ring
	r := seal.New(4, namedSeed)
	for _, s := range append(otherSubjects(), aSubject()) {
		for _, from := range append(noNodes(4), nodesUpTo(10)...) {
			want := api.Vote{Kind: s.kind, Slot: s.slot, View: s.view, Sum: s.sum, From: from}
			v := s.cast(none, from)
			if v != want {
				t.Errorf("%+v by %d: %+v", s, from, v)
			}
			if cert.Good(none, v) || cert.Good(none, s.cast(r, from)) {
				t.Errorf("%+v by %d is Good", s, from)
			}
		}
		noughts := s.by(none, nodesUpTo(10)...)
		for _, l := range [][]api.Vote{nil, {}, s.by(r, 0, 1, 2, 3), noughts, slices.Repeat(noughts, 3)} {
			if got := s.who(none, l); len(got) != 0 {
				t.Errorf("%+v, %d votes: %v", s, len(l), got)
			}
			if s.meets(none, l) {
				t.Errorf("%+v, %d votes Meet", s, len(l))
			}
		}
	}
}

func TestMarksOfANilRing(t *testing.T) {
	var none *seal.Ring
	for _, m := range edgeMarks() {
		v, ok := cert.MarkVote(none, m, 2)
		if want := (api.Vote{Kind: 3, Sum: markOfOthers(m), From: 2}); !ok || v != want {
			t.Errorf("%+v: %+v %v", m, v, ok)
		}
		for _, l := range [][]api.Vote{nil, {}, {v}, onMark(m).by(seal.New(4, namedSeed), 0, 1, 2, 3)} {
			if cert.Accepts(none, api.Cert{Mark: m, Votes: l}) {
				t.Errorf("%+v is accepted, %d votes", m, len(l))
			}
		}
	}
}

// TestAZeroRing: a ring that New did not make has no node, so nobody is enough there too.
func TestAZeroRing(t *testing.T) {
	r, s := &seal.Ring{}, aSubject()
	l := s.by(r, 0, 1, 2)
	if cert.Good(r, l[0]) || len(s.who(r, l)) != 0 || s.meets(r, l) || s.meets(r, nil) || cert.Accepts(r, api.Cert{Mark: aMark()}) {
		t.Error("nobody is enough")
	}
}

// rowsOfVotes are in many ways: in and out of order, too many, with votes that do not count.
func rowsOfVotes(r *seal.Ring, s subject) [][]api.Vote {
	return [][]api.Vote{
		nil,
		s.by(r, 3, 1, 2, 0),
		s.by(r, 2, 2, 1, 2),
		append(badVotes(r, s), s.by(r, 3, 0, 3, 1, 2)...),
		append(otherSubjects()[0].by(r, 3, 2, 1), s.by(r, 3, 2, 1)...),
		slices.Repeat(s.by(r, 3, 2, 1, 0), 4),
	}
}

func TestVotesThatAreHandedInAreNeitherChangedNorKept(t *testing.T) {
	r, m := seal.New(4, namedSeed), aMark()
	s := onMark(m)
	for i, was := range rowsOfVotes(r, s) {
		l := roomy(was, spareVote)
		who, enough, accepted := s.who(r, l), s.meets(r, l), cert.Accepts(r, api.Cert{Mark: m, Votes: l})
		cert.Accepts(r, api.Cert{Votes: l})
		cert.Accepts(nil, api.Cert{Mark: m, Votes: l})
		s.who(nil, l)
		s.meets(nil, l)
		if !untouched(l, was, spareVote) {
			t.Errorf("row %d: the votes were changed", i)
		}
		if want := nodesThatVoted(r, was, s); !slices.Equal(who, want) || enough != (len(want) >= 3) || accepted != enough {
			t.Errorf("row %d, with room behind it: %v %v %v", i, who, enough, accepted)
		}
		kept := slices.Clone(who)
		spoil(l, spareVote)
		sameNodes(t, who, kept)
		sameNodes(t, s.who(r, was), kept)
		if s.meets(r, was) != enough || cert.Accepts(r, api.Cert{Mark: m, Votes: was}) != accepted {
			t.Errorf("row %d: what was handed in is kept", i)
		}
	}
}

// TestVotesInTheSpareRoomDoNotCount: a row ends where it ends (W6).
func TestVotesInTheSpareRoomDoNotCount(t *testing.T) {
	r, m := seal.New(4, namedSeed), aMark()
	s := onMark(m)
	l := s.by(r, 0, 1, 2, 3)
	sameNodes(t, s.who(r, l[:2]), []int{0, 1})
	if s.meets(r, l[:2]) || cert.Accepts(r, api.Cert{Mark: m, Votes: l[:2]}) || s.meets(r, l[:0]) {
		t.Error("votes behind the end count")
	}
}

func TestValuesThatAreHandedInAreNeitherChangedNorKept(t *testing.T) {
	for _, size := range []int{0, 1, 55, 56, 63, 64, 200} {
		was := bytes.Repeat([]byte{0x5c}, size)
		b := roomy(was, 0xa5)
		sum := cert.ValueSum(b)
		if !untouched(b, was, 0xa5) || sum != sumOf(string(was)) {
			t.Errorf("%d bytes: %x", size, sum)
		}
		spoil(b, 0xee)
		if cert.ValueSum(was) != sum {
			t.Errorf("%d bytes: they are kept", size)
		}
	}
}

func TestWhatWhoAnswersIsNewMemory(t *testing.T) {
	r, s := seal.New(4, namedSeed), aSubject()
	for i, l := range rowsOfVotes(r, s) {
		want := nodesThatVoted(r, l, s)
		first, second := s.who(r, l), s.who(r, l)
		spoil(first, -9)
		sameNodes(t, second, want)
		third := s.who(r, l)
		sameNodes(t, third, want)
		spoil(second, -9)
		sameNodes(t, third, want)
		if s.meets(r, l) != (len(want) >= 3) {
			t.Errorf("row %d: an answer that was overwritten is told", i)
		}
	}
}

// TestAnswersStayAndAreTheSameEachTime: whatever was asked meanwhile (W2, W7).
func TestAnswersStayAndAreTheSameEachTime(t *testing.T) {
	r, s := seal.New(7, namedSeed), aSubject()
	vote, l := s.cast(r, 5), s.by(r, 6, 4, 2, 0, 1)
	who := s.who(r, l)
	for turn, other := range otherSubjects() {
		other.who(r, other.by(r, 5, 3, 1))
		other.meets(seal.New(4, otherSeed), l)
		cert.MarkVote(r, api.Mark{Kind: 1, Producer: turn}, turn)
		cert.Accepts(r, api.Cert{Mark: aMark(), Votes: l})
		if s.cast(r, 5) != vote || !cert.Good(r, vote) || !s.meets(r, l) {
			t.Errorf("turn %d: another answer", turn)
		}
		sameNodes(t, s.who(seal.New(7, namedSeed), l), []int{0, 1, 2, 4, 6})
		sameNodes(t, who, []int{0, 1, 2, 4, 6})
	}
}
