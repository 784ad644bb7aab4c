package seq_test

import (
	"math"
	"testing"

	"seneschal/api"
)

// TestLogAndPendingAreInOrder: in that of the slots, in that of the coming (P9.3).
func TestLogAndPendingAreInOrder(t *testing.T) {
	p := of(4)
	s := p.seq(2)
	logIs(t, s)
	pendingIs(t, s)
	for i, value := range []string{"q", "b", "z", "a", "qq", "Z"} {
		submits(t, s, value)
		pendingIs(t, s, []string{"q", "b", "z", "a", "qq", "Z"}[:i+1]...)
	}
	log := []string{"m", "z", "c", "q", "y"}
	for i, left := range [][]string{{"q", "b", "z", "a", "qq", "Z"}, {"q", "b", "a", "qq", "Z"}, {"q", "b", "a", "qq", "Z"}, {"b", "a", "qq", "Z"}, {"b", "a", "qq", "Z"}} {
		s.Take(p.at(i).decision(1, log[i]))
		logIs(t, s, log[:i+1]...)
		pendingIs(t, s, left...)
	}
	submits(t, s, "n")
	pendingIs(t, s, "b", "a", "qq", "Z", "n")
}

// TestProofs: of each slot its own, of others nothing (P9.3).
func TestProofs(t *testing.T) {
	p := of(4)
	s := p.seq(2)
	var proofs [][]api.Vote
	told := func() {
		t.Helper()
		for slot, want := range proofs {
			proofIs(t, s, slot, want)
		}
		next := len(proofs)
		for _, slot := range []int{next, next + 1, next + 3, -1, -2, -64, 64, 65, 1 << 32, 1<<32 - 1, -1 << 32, math.MinInt, math.MaxInt} {
			proofIs(t, s, slot, nil)
		}
	}
	told()
	for slot, value := range some(9) {
		q := p.at(slot)
		why := q.commits(slot, value, slot%4, (slot+3)%4, (slot+1)%4)
		q.slot++
		s.Take(q.decide(0, "too little", q.commits(0, "too little", 0, 1)...)) // stored
		s.Take(p.at(slot).decide(1, value, why...))
		proofs = append(proofs, why)
		told()
	}
	// Of what is stored only nothing is told.
	s.Take(p.at(10).decision(0, "x"))
	told()
}

// TestViewsOfEachSlot: behind ticks and behind a decision (P9.3).
func TestViewsOfEachSlot(t *testing.T) {
	p := of(4)
	s := p.seq(2)
	for slot, value := range some(api.MaxSlots) {
		viewIs(t, s, 0)
		for view := range slot % (api.MaxView + 3) {
			s.Tick()
			viewIs(t, s, min(view+1, api.MaxView))
		}
		s.Take(p.at(slot).decision(0, value))
	}
	viewIs(t, s, 0)
	s.Tick()
	viewIs(t, s, 0)
}
