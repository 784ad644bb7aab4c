package round_test

import (
	"slices"
	"testing"

	"seneschal/api"
	"seneschal/round"
	"seneschal/rule"
	"seneschal/wire"
)

const (
	spare = 0xa5 // what stands in the spare room behind a value
	room  = 12   // more than MaxNodes, so that what would be laid behind a row has its place there
)

var spareVote = api.Vote{Kind: -7, Slot: -7, View: -7, Sum: namedSeed, From: -7, Tag: otherSeed}

// roomy is a row with spare room behind its end, in which filler stands.
func roomy[T any](row []T, filler T) []T {
	all := slices.Clone(row)
	for range room {
		all = append(all, filler)
	}
	return all[:len(row):len(all)]
}

// untouched tells whether a row is still what roomy made, its spare room too.
func untouched[T comparable](row, was []T, filler T) bool {
	whole := roomy(was, filler)
	return slices.Equal(row[:cap(row)], whole[:cap(whole)])
}

// spoil overwrites a row and the spare room behind it.
func spoil[T any](row []T, with T) {
	for i := range row[:cap(row)] {
		row[:cap(row)][i] = with
	}
}

// spoilMsgs overwrites messages, their rows, and all spare room.
func spoilMsgs(l []api.Msg) {
	for _, m := range l {
		spoil(m.Value, 0xee)
		spoil(m.Votes, spareVote)
	}
	spoil(l, api.Msg{Kind: -3, Value: []byte("spoilt")})
}

// copyMsgs are messages of their own memory.
func copyMsgs(l []api.Msg) []api.Msg {
	var all []api.Msg
	for _, m := range l {
		m.Value, m.Votes = slices.Clone(m.Value), slices.Clone(m.Votes)
		all = append(all, m)
	}
	return all
}

// handed makes a call with rows that have spare room, sees that these are as they were, and overwrites them.
func handed(t *testing.T, x *round.Round, a act) []api.Msg {
	t.Helper()
	if a.tick {
		return x.Tick()
	}
	if a.want != "" {
		value := roomy([]byte(a.want), spare)
		got := x.Want(value)
		if !untouched(value, []byte(a.want), spare) {
			t.Errorf("what was handed to Want is changed: %q", a.want)
		}
		spoil(value, 0xee)
		return got
	}
	m := a.msg
	m.Value, m.Votes = roomy(a.msg.Value, spare), roomy(a.msg.Votes, spareVote)
	got := x.Take(m)
	if !untouched(m.Value, a.msg.Value, spare) || !untouched(m.Votes, a.msg.Votes, spareVote) {
		t.Errorf("what was handed to Take is changed: %s", told([]api.Msg{a.msg}))
	}
	spoil(m.Value, 0xee)
	spoil(m.Votes, spareVote)
	return got
}

// plainly makes a call, and keeps no hold of anything.
func plainly(x *round.Round, a act) []api.Msg {
	switch {
	case a.tick:
		return x.Tick()
	case a.want != "":
		return x.Want([]byte(a.want))
	}
	return x.Take(copyMsgs([]api.Msg{a.msg})[0])
}

// asked overwrites all that a round tells of itself.
func asked(x *round.Round) {
	k := x.Lock()
	spoil(k.Value, 0xee)
	spoil(k.Votes, spareVote)
	value, votes, _ := x.Decided()
	spoil(value, 0xee)
	spoil(votes, spareVote)
}

// TestNothingIsSharedWithTheOutside: a round whose arguments and answers are overwritten, each at once, does the same as one where nobody touches them (P8.4, W6).
func TestNothingIsSharedWithTheOutside(t *testing.T) {
	c := chance(21)
	answers := 0
	for turn := range 250 {
		p := place{of(1 + turn%10).ring, c.below(64)}
		me := c.below(p.ring.Nodes())
		x, twin := p.round(me), p.round(me)
		for range 60 {
			a := nextAct(&c, p, twin.View())
			want := plainly(twin, a)
			got := handed(t, x, a)
			sent(t, got, want...)
			answers += len(got)
			spoilMsgs(got)
			asked(x)
			if toldRound(x) != toldRound(twin) {
				t.Fatalf("%s\nnot\n%s", toldRound(x), toldRound(twin))
			}
		}
	}
	if answers < 1000 {
		t.Error("too little happened:", answers)
	}
}

// TestStatusesAreNotShared: the lock of one that waits for others is overwritten outside (W6).
func TestStatusesAreNotShared(t *testing.T) {
	p := of(4)
	lock := p.prepares(0, "x", 0, 2, 3)
	x := p.round(1)
	x.Want([]byte("w"))
	sent(t, handed(t, x, act{msg: p.status(0, 1, "x", lock...)}))
	x.Tick()
	sent(t, handed(t, x, act{msg: p.status(2, 1, "")}), p.toAll(p.propose(1, 1, "x", lock...), p.prepare(1, 1, "x"))...)
}

// TestAnswersStay: whatever is called later (W7).
func TestAnswersStay(t *testing.T) {
	c := chance(5)
	for turn := range 100 {
		p := place{of(1 + turn%10).ring, c.below(64)}
		x := p.round(c.below(p.ring.Nodes()))
		var got, want [][]api.Msg
		var locks, wereLocks []rule.Lock
		for range 60 {
			l := plainly(x, nextAct(&c, p, x.View()))
			got, want = append(got, l), append(want, copyMsgs(l))
			k := x.Lock()
			locks = append(locks, k)
			wereLocks = append(wereLocks, rule.Lock{View: k.View, Value: slices.Clone(k.Value), Votes: slices.Clone(k.Votes)})
		}
		for i := range got {
			sent(t, got[i], want[i]...)
			if string(locks[i].Value) != string(wereLocks[i].Value) || !slices.Equal(locks[i].Votes, wereLocks[i].Votes) {
				t.Error("a lock that was answered has changed")
			}
		}
	}
}

// TestNoTwoListsOfOneAnswerShare: one message overwritten, with its spare room, leaves all others (W6).
func TestNoTwoListsOfOneAnswerShare(t *testing.T) {
	p := of(4)
	lead := func() []api.Msg {
		x := p.round(3)
		x.Want([]byte("w"))
		takes(x, p.propose(0, 0, "x"), p.prepare(0, 0, "x"), p.prepare(1, 0, "x"))
		ticked(x, 3)
		takes(x, p.status(0, 3, ""), p.prepare(0, 3, "x"), p.prepare(1, 3, "x"))
		return x.Take(p.status(1, 3, "")) // a proposal with votes, a prepare and a commit, to three nodes each
	}
	want := lead()
	if len(want) != 9 || len(want[0].Votes) != 3 || string(want[0].Value) != "x" {
		t.Fatal(told(want))
	}
	for i := range want {
		l := lead()
		spoil(l[i].Value, 0xee)
		spoil(l[i].Votes, spareVote)
		l[i].Value, l[i].Votes = append(l[i].Value, "more"...), append(l[i].Votes, spareVote, spareVote)
		for j := range l {
			if i != j && !wire.SameMsg(l[j], want[j]) {
				t.Errorf("messages %d and %d share", i, j)
			}
		}
	}
	x := p.round(3)
	x.Take(p.decide(0, "d", p.commits(0, "d", 0, 1, 2)...))
	value, votes, _ := x.Decided()
	spoil(value, 0xee)
	spoil(votes, spareVote)
	decided(t, x, "d", p.commits(0, "d", 0, 1, 2))
}

// TestWhatIsInTheSpareRoomDoesNotCount: of a message, and of a wish (W6).
func TestWhatIsInTheSpareRoomDoesNotCount(t *testing.T) {
	p := of(4)
	x := p.round(3)
	enough := p.commits(0, "x", 0, 1, 2)
	x.Take(p.decide(0, "x", enough[:2]...))
	undecided(t, x)
	x.Take(p.propose(0, 0, "x"))
	takes(x, p.says(0, 0, p.prepares(0, "x", 0, 1)[:0]...), p.prepare(1, 0, "x"))
	free(t, x)
	y := p.round(0)
	sent(t, y.Want([]byte("xy")[:0]))
	sent(t, y.Want([]byte("xy")[:1]), p.toAll(p.propose(0, 0, "x"), p.prepare(0, 0, "x"))...)
}

// TestTwins: rounds of one row of calls are alike, and one does not see what is told another (W2).
func TestTwins(t *testing.T) {
	c := chance(77)
	for turn := range 60 {
		p := place{of(4 + turn%4).ring, turn}
		me := c.below(p.ring.Nodes())
		x, twin, other := p.round(me), round.New(of(4+turn%4).ring, me, turn), p.round(me)
		for range 60 {
			a := nextAct(&c, p, x.View())
			plainly(other, nextAct(&c, p, other.View()))
			got := plainly(x, a)
			plainly(other, act{tick: turn%5 == 0, want: "o"})
			sent(t, plainly(twin, a), got...)
			if toldRound(x) != toldRound(twin) {
				t.Fatal(toldRound(x), toldRound(twin))
			}
		}
	}
}

// TestManySumsOfOneLiar: each counts, and all of it ends soon (W1).
func TestManySumsOfOneLiar(t *testing.T) {
	p := of(4)
	x := p.round(3)
	x.Take(p.propose(0, 0, "x"))
	for i := range 3000 {
		value := string([]byte{byte(i), byte(i >> 8)})
		sent(t, takes(x, p.prepare(1, 0, value), p.commit(1, 0, value)))
	}
	sent(t, takes(x, p.prepare(1, 0, "x"), p.prepare(0, 0, "x")), p.toAll(p.commit(3, 0, "x"))...)
	takes(x, p.commit(1, 0, "x"), p.commit(2, 0, "x"))
	decided(t, x, "x", p.commits(0, "x", 1, 2, 3))
	y := p.round(3)
	for i := range 3000 {
		y.Take(p.commit(1, 0, string([]byte{byte(i), byte(i >> 8)})))
	}
	late := string([]byte{5, 1})
	takes(y, p.commit(0, 0, late), p.commit(2, 0, late), p.propose(0, 0, late))
	decided(t, y, late, p.commits(0, late, 0, 1, 2))
}
