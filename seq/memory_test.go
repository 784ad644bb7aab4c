package seq_test

import (
	"slices"
	"testing"

	"seneschal/api"
	"seneschal/seq"
	"seneschal/wire"
)

const (
	spare = 0xa5 // what stands in the spare room behind a value
	room  = 12   // more than MaxNodes, so that what would be laid behind a row has its place there
)

var spareVote = api.Vote{Kind: -7, Slot: -7, View: -7, Sum: namedSeed, From: -7, Tag: otherSeed}

// roomy is a row with spare room behind its end, in which filler stands.
func roomy[T any](row []T, filler T) []T {
	all := slices.Clone(row)
	for range room {
		all = append(all, filler)
	}
	return all[:len(row):len(all)]
}

// untouched tells whether a row is still what roomy made, its spare room too.
func untouched[T comparable](row, was []T, filler T) bool {
	whole := roomy(was, filler)
	return slices.Equal(row[:cap(row)], whole[:cap(whole)])
}

// spoil overwrites a row and the spare room behind it.
func spoil[T any](row []T, with T) {
	for i := range row[:cap(row)] {
		row[:cap(row)][i] = with
	}
}

// spoilMsgs overwrites messages, their rows, and all spare room.
func spoilMsgs(l []api.Msg) {
	for _, m := range l {
		spoil(m.Value, 0xee)
		spoil(m.Votes, spareVote)
	}
	spoil(l, api.Msg{Kind: -3, Value: []byte("spoilt")})
}

// spoilList overwrites rows of bytes, and the list of them.
func spoilList(l [][]byte) {
	for _, b := range l {
		spoil(b, 0xee)
	}
	spoil(l, []byte("spoilt"))
}

// copyMsgs are messages of their own memory.
func copyMsgs(l []api.Msg) []api.Msg {
	var all []api.Msg
	for _, m := range l {
		m.Value, m.Votes = slices.Clone(m.Value), slices.Clone(m.Votes)
		all = append(all, m)
	}
	return all
}

// handed makes a call with rows that have spare room, sees that these are as they were, and overwrites them.
func handed(t *testing.T, s *seq.Seq, a act) []api.Msg {
	t.Helper()
	switch {
	case a.tick:
		return s.Tick()
	case a.value != nil:
		value := roomy([]byte(*a.value), spare)
		got, _ := s.Submit(value)
		if !untouched(value, []byte(*a.value), spare) {
			t.Errorf("what was handed to Submit is changed: %q", *a.value)
		}
		spoil(value, 0xee)
		return got
	}
	var got []api.Msg
	for range a.times {
		m := a.msg
		m.Value, m.Votes = roomy(a.msg.Value, spare), roomy(a.msg.Votes, spareVote)
		got = append(got, s.Take(m)...)
		if !untouched(m.Value, a.msg.Value, spare) || !untouched(m.Votes, a.msg.Votes, spareVote) {
			t.Errorf("what was handed to Take is changed: %s", told([]api.Msg{a.msg}))
		}
		spoil(m.Value, 0xee)
		spoil(m.Votes, spareVote)
	}
	return got
}

// plainly makes a call, and keeps no hold of anything.
func plainly(s *seq.Seq, a act) []api.Msg {
	switch {
	case a.tick:
		return s.Tick()
	case a.value != nil:
		got, _ := s.Submit([]byte(*a.value))
		return got
	}
	var got []api.Msg
	for range a.times {
		got = append(got, s.Take(copyMsgs([]api.Msg{a.msg})[0])...)
	}
	return got
}

// asked overwrites all that a Seq tells of itself.
func asked(s *seq.Seq) {
	spoilList(s.Log())
	spoilList(s.Pending())
	for slot := range s.Log() {
		spoil(s.Proof(slot), spareVote)
	}
}

// TestNothingIsSharedWithTheOutside: a Seq whose arguments and answers are overwritten, each at once, does the same as one where nobody touches them (P9.4, W6).
func TestNothingIsSharedWithTheOutside(t *testing.T) {
	c := chance(33)
	answers, slots := 0, 0
	for turn := range 60 {
		p := of(1 + turn%10)
		me := c.below(p.ring.Nodes())
		s, twin := p.seq(me), p.seq(me)
		for range 120 {
			a := nextAct(&c, p.at(len(twin.Log())), twin.View())
			want := plainly(twin, a)
			got := handed(t, s, a)
			sent(t, got, want...)
			answers += len(got)
			spoilMsgs(got)
			asked(s)
			if toldSeq(s) != toldSeq(twin) {
				t.Fatalf("%s\nnot\n%s", toldSeq(s), toldSeq(twin))
			}
		}
		slots += len(s.Log())
	}
	if answers < 1000 || slots < 150 {
		t.Error("too little happened:", answers, slots)
	}
}

// TestWhatIsStoredIsNotShared: it is overwritten outside while it waits, and its spare room does not come with it (W6).
func TestWhatIsStoredIsNotShared(t *testing.T) {
	p := of(4)
	s := p.seq(3)
	q := p.at(1)
	sent(t, handed(t, s, act{msg: q.propose(0, "x"), times: 1}))
	sent(t, handed(t, s, act{msg: q.prepare(0, 0, "x"), times: 1}))
	sent(t, handed(t, s, act{msg: q.prepare(1, 0, "x"), times: 1}))
	sent(t, handed(t, s, act{msg: p.at(2).decision(0, "y"), times: 1}))
	sent(t, s.Take(p.decision(0, "a")), q.toAll(q.prepare(3, 0, "x"), q.commit(3, 0, "x"))...)
	takes(s, q.commit(0, 0, "x"), q.commit(1, 0, "x"))
	logIs(t, s, "a", "x", "y")
	// What stands behind the end of a row that is handed in is not looked at.
	s = p.seq(3)
	short := q.decision(0, "x")
	short.Votes = short.Votes[:2]
	s.Take(q.sealed(short))
	s.Take(p.decision(0, "a"))
	logIs(t, s, "a")
}

// TestAnswersStay: whatever is called later (W7).
func TestAnswersStay(t *testing.T) {
	c := chance(5)
	for turn := range 40 {
		p := of(1 + turn%10)
		s := p.seq(c.below(p.ring.Nodes()))
		var got, want [][]api.Msg
		var lists [][][]byte
		var were [][]string
		var proofs, wereProofs [][]api.Vote
		for range 100 {
			l := plainly(s, nextAct(&c, p.at(len(s.Log())), s.View()))
			got, want = append(got, l), append(want, copyMsgs(l))
			for _, list := range [][][]byte{s.Log(), s.Pending()} {
				lists, were = append(lists, list), append(were, texts(list))
			}
			proof := s.Proof(len(s.Log()) - 1)
			proofs, wereProofs = append(proofs, proof), append(wereProofs, slices.Clone(proof))
		}
		for i := range got {
			sent(t, got[i], want[i]...)
			if !slices.Equal(proofs[i], wereProofs[i]) {
				t.Error("a proof that was answered has changed")
			}
		}
		for i := range lists {
			if !slices.Equal(texts(lists[i]), were[i]) {
				t.Error("a list that was answered has changed")
			}
		}
	}
}

// TestNoTwoListsOfOneAnswerShare: one part of it overwritten, with its spare room, leaves all others (W6).
func TestNoTwoListsOfOneAnswerShare(t *testing.T) {
	p := of(4)
	lists := func() (log, pending [][]byte) {
		s := p.seq(2)
		submits(t, s, "p0", "p1", "p2", "p3")
		follows(s, p, 0, "l0", "l0", "l2", "l3")
		return s.Log(), s.Pending()
	}
	log, pending := lists()
	wantLog, wantPending := texts(log), texts(pending)
	for i := range 4 {
		for k := range 2 {
			log, pending := lists()
			both := [][][]byte{log, pending}
			spoil(both[k][i], 0xee)
			both[k][i] = append(both[k][i], "more than was there"...)
			both[k][i] = []byte([][]string{wantLog, wantPending}[k][i])
			if !slices.Equal(texts(log), wantLog) || !slices.Equal(texts(pending), wantPending) {
				t.Errorf("%q %q", log, pending)
			}
		}
	}
	answer := func() []api.Msg {
		s := p.seq(1)
		submits(t, s, "a", "b")
		takes(s, p.propose(0, "a"), p.prepare(0, 0, "a"), p.prepare(2, 0, "a"), p.commit(2, 0, "a"), p.at(1).prepare(0, 0, "b"), p.at(1).prepare(2, 0, "b"))
		return s.Take(p.commit(3, 0, "a")) // a proposal, a prepare and a commit, to three nodes each
	}
	want := answer()
	if len(want) != 9 {
		t.Fatal(told(want))
	}
	for i := range want {
		l := answer()
		spoil(l[i].Value, 0xee)
		spoil(l[i].Votes, spareVote)
		l[i].Value, l[i].Votes = append(l[i].Value, "more"...), append(l[i].Votes, spareVote, spareVote)
		for j := range l {
			if i != j && !wire.SameMsg(l[j], want[j]) {
				t.Errorf("messages %d and %d share", i, j)
			}
		}
	}
}

// TestWhatALateNodeIsToldIsNotShared: with what is kept, and with another such answer (W6).
func TestWhatALateNodeIsToldIsNotShared(t *testing.T) {
	p := of(4)
	s := p.seq(1)
	follows(s, p, 0, "a", "b")
	want := copyMsgs(s.Take(p.status(3, 1, "")))
	first, second := s.Take(p.status(3, 1, "")), s.Take(p.status(3, 1, ""))
	spoilMsgs(first)
	sent(t, second, want...)
	sent(t, s.Take(p.status(3, 1, "")), want...)
	logIs(t, s, "a", "b")
	proofIs(t, s, 0, p.commits(0, "a", 0, 1, 2))
}

// TestTwins: Seqs of one row of calls are alike, and one does not see what is told another (W2).
func TestTwins(t *testing.T) {
	c := chance(77)
	for turn := range 30 {
		p := of(4 + turn%4)
		me := c.below(p.ring.Nodes())
		s, twin, other := p.seq(me), of(4+turn%4).seq(me), p.seq(me)
		for range 80 {
			a := nextAct(&c, p.at(len(s.Log())), s.View())
			plainly(other, nextAct(&c, p.at(len(other.Log())), other.View()))
			got := plainly(s, a)
			plainly(other, act{tick: turn%5 == 0, msg: noise(len(other.Log()) + 2), times: 3})
			sent(t, plainly(twin, a), got...)
			if toldSeq(s) != toldSeq(twin) {
				t.Fatal(toldSeq(s), toldSeq(twin))
			}
		}
	}
}
