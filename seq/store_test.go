package seq_test

import (
	"math"
	"slices"
	"testing"

	"seneschal/api"
	"seneschal/seq"
)

// TestStoreWithinTheWindow: what comes ahead is taken when its slot comes, if that was at most Window above (P9.1).
func TestStoreWithinTheWindow(t *testing.T) {
	p := of(4)
	for _, current := range []int{0, 1, 7, 30, 54, 55, 58} {
		all := some(current + 6)
		for ahead := 1; ahead <= 5 && current+ahead < api.MaxSlots; ahead++ {
			s := p.seq(3)
			follows(s, p, 0, all[:current]...)
			was := toldSeq(s)
			slot := current + ahead
			sent(t, s.Take(p.at(slot).decision(0, all[slot])))
			if got := toldSeq(s); got != was {
				t.Errorf("%s\nwas\n%s", got, was)
			}
			follows(s, p.at(current), 1, all[current:slot]...)
			if ahead <= api.Window {
				slot++
			}
			logIs(t, s, all[:slot]...)
		}
	}
}

// TestStoreOnlyOnceItIsWithinTheWindow: what was too far ahead is as if it had never come, also later (P9.1).
func TestStoreOnlyOnceItIsWithinTheWindow(t *testing.T) {
	p := of(4)
	s := p.seq(3)
	all := some(8)
	s.Take(p.at(5).decision(0, all[5]))
	s.Take(p.decision(0, all[0]))
	s.Take(p.at(5).decision(0, "another"))
	follows(s, p.at(1), 0, all[1:5]...)
	logIs(t, s, all[0], all[1], all[2], all[3], all[4], "another")
}

// storable are messages that may be stored at slot 0, and that never count.
func storable(p place) []api.Msg {
	var l []api.Msg
	for slot := 1; slot <= api.Window; slot++ {
		q := p.at(slot)
		turned := q.decision(0, "x")
		turned.Tag[5]++
		fromMe := q.decision(0, "x")
		fromMe.From = 3
		l = append(l, noise(slot), turned, q.sealed(fromMe),
			api.Msg{Slot: slot},
			api.Msg{Kind: -1, From: math.MinInt, To: math.MaxInt, Slot: slot, View: -7},
			q.decide(0, "x", q.commits(0, "x", 0, 1)...),
			q.decide(0, longest+"v", q.commits(0, longest+"v", 0, 1, 2)...),
			q.sealed(api.Msg{Kind: api.MsgMark, From: 1, Slot: slot, Votes: make([]api.Vote, 11)}),
			q.propose(0, longest+"v"),
			q.status(1, api.MaxView+1, ""),
			of(10).at(slot).sealed(api.Msg{Kind: api.MsgPropose, From: 9, Slot: slot, Value: []byte("x")}))
	}
	return l
}

// TestStoreOfMaxStored: the last one that has room, and the first that has none, whatever else is stored (P9.1).
func TestStoreOfMaxStored(t *testing.T) {
	p := of(4)
	for _, filler := range storable(p) {
		for _, room := range []int{0, 1, 2} {
			s := p.seq(3)
			for range api.MaxStored - room {
				sent(t, s.Take(filler))
			}
			s.Take(p.at(1).decision(0, "b"))
			s.Take(p.at(2).decision(0, "c"))
			sent(t, s.Take(p.decision(0, "a")))
			logIs(t, s, []string{"a", "b", "c"}[:1+room]...)
		}
	}
}

// TestStoreOfSlotsThatAreNone: such as are above the current one, at most Window, have their room, too (P9.1).
func TestStoreOfSlotsThatAreNone(t *testing.T) {
	p := of(4)
	for room := range 2 {
		s := p.seq(3)
		all := some(api.MaxSlots)
		follows(s, p, 0, all[:62]...)
		for i := range api.MaxStored - room {
			s.Take(noise(api.MaxSlots + i%3))
			s.Take(noise(api.MaxSlots + 3)) // too far
		}
		s.Take(p.at(63).decision(0, all[63]))
		s.Take(p.at(62).decision(0, all[62]))
		logIs(t, s, all[:63+room]...)
	}
}

// TestStoreOfWhatNeverCounts: it goes on without it (P9.1).
func TestStoreOfWhatNeverCounts(t *testing.T) {
	p := of(4)
	s, twin := p.seq(3), p.seq(3)
	takes(s, storable(p)...)
	for slot, value := range some(6) {
		q := p.at(slot)
		for _, m := range []api.Msg{q.propose(0, value), q.prepare(0, 0, value), q.commit(0, 0, value), q.decision(0, value)} {
			sent(t, s.Take(m), twin.Take(m)...)
			if toldSeq(s) != toldSeq(twin) {
				t.Fatalf("%s\nnot\n%s", toldSeq(s), toldSeq(twin))
			}
		}
	}
}

// TestWhatTakesNoRoom: of the current slot, of slots below, of those too far ahead, requests (P9.1).
func TestWhatTakesNoRoom(t *testing.T) {
	p := of(4)
	s := p.seq(3)
	all := some(8)
	follows(s, p, 0, all[:2]...)
	ahead := request("a")
	ahead.Slot = 4
	for range 2 * api.MaxStored {
		for _, slot := range []int{-1, 0, 1, 2, 2 + api.Window + 1, api.MaxSlots, math.MaxInt, math.MinInt} {
			s.Take(noise(slot))
		}
		s.Take(ahead)
		s.Take(p.at(1).status(0, 1, ""))
		s.Take(p.at(2).prepare(1, 0, "x"))
	}
	for slot := 6; slot >= 2; slot-- {
		s.Take(p.at(slot).decision(0, all[slot]))
	}
	logIs(t, s, all[:7]...)
}

// TestStoreInTheOrderInWhichTheyCame: of what a leader said twice the first one counts, whatever came between (P9.2).
func TestStoreInTheOrderInWhichTheyCame(t *testing.T) {
	p := of(4)
	for turn := range 30 {
		c := chance(turn)
		s := p.seq(3)
		first := map[int]string{}
		for i := range api.MaxStored {
			slot := 1 + c.below(api.Window)
			value := string([]byte{'a' + byte(c.below(20)), byte(i)})
			if first[slot] == "" {
				first[slot] = value
			}
			s.Take(p.at(slot).propose(0, value))
		}
		for slot := range api.Window {
			got := s.Take(p.at(slot).decision((slot+1)%3, "d"))
			if next := p.at(slot + 1); next.leader(0) != 3 && first[slot+1] != "" {
				sent(t, got, next.toAll(next.prepare(3, 0, first[slot+1]))...)
			} else {
				sent(t, got)
			}
		}
	}
}

// TestStoredOnesAreTakenBehindTheWish: the new Round wants first (P9.2).
func TestStoredOnesAreTakenBehindTheWish(t *testing.T) {
	p := of(4)
	s := p.seq(1)
	submits(t, s, "b")
	s.Take(p.at(1).decision(0, "z"))
	sent(t, s.Take(p.decision(0, "a")), p.at(1).opens(0, "b")...)
	logIs(t, s, "a", "z")
	pendingIs(t, s, "b")
}

// fills stores so many messages of a slot that never count.
func fills(s *seq.Seq, slot, count int) {
	for range count {
		s.Take(noise(slot))
	}
}

// TestWhatWasStoredMakesRoom: once its slot has come, and no earlier (P9.2).
func TestWhatWasStoredMakesRoom(t *testing.T) {
	p := of(4)
	all := some(12)
	s := p.seq(3)
	fills(s, 1, api.MaxStored)
	follows(s, p, 0, all[:2]...)
	logIs(t, s, all[:2]...)
	// All of slot 1 are gone; of slot 3 and 4 some stay when slot 3 comes.
	fills(s, 4, 100)
	fills(s, 3, 26)
	s.Take(p.at(3).decision(0, all[3]))
	s.Take(p.at(5).decision(0, all[5]))
	s.Take(p.at(6).decision(0, "no room"))
	s.Take(p.at(2).decision(0, all[2]))
	logIs(t, s, all[:4]...)
	// 100 of slot 4, which is the current one now, are gone, and so are those of slot 3: one of slot 5 is there.
	s.Take(p.at(4).decision(0, all[4]))
	logIs(t, s, all[:6]...)
	fills(s, 7, api.MaxStored-2)
	s.Take(p.at(8).decision(0, all[8]))
	s.Take(p.at(9).decision(0, all[9]))
	s.Take(p.at(10).decision(0, "no room"))
	follows(s, p.at(6), 0, all[6:8]...)
	logIs(t, s, all[:10]...)
}

// TestRoomIsMadeAsSoonAsASlotIsTheCurrentOne: what was stored is taken then, and is stored no more (P9.2).
func TestRoomIsMadeAsSoonAsASlotIsTheCurrentOne(t *testing.T) {
	p := of(4)
	all := some(4)
	s := p.seq(3)
	fills(s, 1, 2)
	fills(s, 4, api.MaxStored-2)
	s.Take(p.at(2).decision(0, "no room"))
	s.Take(p.decision(0, all[0]))
	s.Take(p.at(2).decision(0, all[2]))
	s.Take(p.at(3).decision(0, all[3]))
	fills(s, 5, 3) // none of them has room
	s.Take(p.at(1).decision(0, all[1]))
	logIs(t, s, all...)
	// 126 of slot 4 were taken; what of slot 5 had no room does not stand in the way.
	fills(s, 6, api.MaxStored-1)
	s.Take(p.at(5).decision(0, "f"))
	s.Take(p.at(4).decision(0, "e"))
	logIs(t, s, slices.Concat(all, []string{"e", "f"})...)
}
