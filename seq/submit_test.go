package seq_test

import (
	"slices"
	"strings"
	"testing"

	"seneschal/api"
	"seneschal/seq"
)

var longest = strings.Repeat("v", api.MaxValue)

// wrong are values that may not be submitted.
func wrong() [][]byte {
	return [][]byte{nil, {}, []byte("spare")[:0], []byte(longest + "v"), make([]byte, 5000)}
}

// TestSubmitOfWhatMayNotBe: empty, nil, one byte too long, much too long; with nothing pending, and with something (P9.1).
func TestSubmitOfWhatMayNotBe(t *testing.T) {
	p := of(4)
	s := p.seq(0)
	for _, value := range wrong() {
		refused(t, s, value, api.ErrArg)
	}
	sent(t, submits(t, s, "a"), p.opens(0, "a")...)
	for _, value := range wrong() {
		refused(t, s, value, api.ErrArg)
	}
	pendingIs(t, s, "a")
}

// TestSubmitAtTheEdges: one byte, and MaxValue of them (P9.1).
func TestSubmitAtTheEdges(t *testing.T) {
	p := of(4)
	for _, value := range []string{"\x00", "x", longest[1:], longest} {
		s := p.seq(0)
		sent(t, submits(t, s, value), p.opens(0, value)...)
		pendingIs(t, s, value)
	}
}

// TestSubmitOfTheFirstOne: it is Wanted, and no other is (P9.1).
func TestSubmitOfTheFirstOne(t *testing.T) {
	p := of(4)
	s := p.seq(0)
	sent(t, submits(t, s, "a"), p.opens(0, "a")...)
	sent(t, submits(t, s, "b", "c"))
	pendingIs(t, s, "a", "b", "c")

	// Who leads later still wants the first one then.
	s = p.seq(1)
	sent(t, submits(t, s, "a", "b", "c"))
	s.Tick()
	s.Take(p.status(0, 1, ""))
	sent(t, s.Take(p.status(2, 1, "")), p.opens(1, "a")...)
}

// TestSubmitInALaterView: the Round Wants it where it is (P9.1).
func TestSubmitInALaterView(t *testing.T) {
	p := of(4)
	s := p.seq(1)
	s.Tick()
	sent(t, takes(s, p.status(0, 1, ""), p.status(2, 1, "")))
	sent(t, submits(t, s, "a"), p.opens(1, "a")...)
	sent(t, submits(t, s, "b"))
}

// TestSubmitOnceNothingIsPendingAnyMore: what comes then is the first one again (P9.1).
func TestSubmitOnceNothingIsPendingAnyMore(t *testing.T) {
	p := of(4)
	s := p.seq(1)
	submits(t, s, "a")
	sent(t, s.Take(p.decision(0, "a")))
	pendingIs(t, s)
	sent(t, submits(t, s, "b"), p.at(1).opens(0, "b")...)
	sent(t, submits(t, s, "c"))
	pendingIs(t, s, "b", "c")
}

// TestSubmitOfWhatIsPendingOrInTheLog: OK, and nothing is done; what only begins alike is another value (P9.1).
func TestSubmitOfWhatIsPendingOrInTheLog(t *testing.T) {
	p := of(4)
	s := p.seq(2)
	submits(t, s, "a", "b", "c")
	known(t, s, "a", "b", "c")
	follows(s, p, 0, "b", "x")
	logIs(t, s, "b", "x")
	pendingIs(t, s, "a", "c")
	known(t, s, "b", "x", "a", "c")
	submits(t, s, "aa", "bx", "A", "c\x00", "xx")
	pendingIs(t, s, "a", "c", "aa", "bx", "A", "c\x00", "xx")
}

// TestSubmitOfMoreThanMaxPending: the last one that has room, and the first that has none (P9.1).
func TestSubmitOfMoreThanMaxPending(t *testing.T) {
	p := of(4)
	s := p.seq(2)
	all := some(api.MaxPending)
	submits(t, s, all[:api.MaxPending-1]...)
	submits(t, s, all[api.MaxPending-1])
	pendingIs(t, s, all...)
	refused(t, s, []byte("more"), api.ErrFull)
	refused(t, s, []byte(longest), api.ErrFull)
	// What is looked at first: whether it may be, whether it is there, whether there is room.
	for _, value := range wrong() {
		refused(t, s, value, api.ErrArg)
	}
	known(t, s, all...)
	// One that is decided makes room for one, one that was not pending makes none.
	s.Take(p.decision(0, "other"))
	refused(t, s, []byte("more"), api.ErrFull)
	known(t, s, "other")
	s.Take(p.at(1).decision(0, all[7]))
	submits(t, s, "more")
	refused(t, s, []byte("and more"), api.ErrFull)
	known(t, s, append([]string{"more", "other"}, all...)...)
	pendingIs(t, s, append(slices.Delete(slices.Clone(all), 7, 8), "more")...)
}

// full is a Seq whose log has MaxSlots, and what is in it.
func full(p place, me int) (*seq.Seq, []string) {
	s, all := p.seq(me), some(api.MaxSlots)
	follows(s, p, (me+1)%p.ring.Nodes(), all...)
	return s, all
}

// TestSubmitWhenTheLogHasMaxSlots: nothing is pending, something is, MaxPending are (P9.1).
func TestSubmitWhenTheLogHasMaxSlots(t *testing.T) {
	p := of(4)
	for _, count := range []int{0, 1, 5, api.MaxPending} {
		s, all := p.seq(2), some(api.MaxSlots)
		var waiting []string
		for i := range count {
			waiting = append(waiting, strings.Repeat("w", i+1))
		}
		submits(t, s, waiting...)
		follows(s, p, 0, all[:api.MaxSlots-1]...)
		if count < api.MaxPending {
			submits(t, s, "one more")
			waiting = append(waiting, "one more")
		}
		s.Take(p.at(api.MaxSlots-1).decision(0, all[api.MaxSlots-1]))
		logIs(t, s, all...)
		pendingIs(t, s, waiting...)
		refused(t, s, []byte("new"), api.ErrFull)
		refused(t, s, []byte(longest), api.ErrFull)
		for _, value := range wrong() {
			refused(t, s, value, api.ErrArg)
		}
		known(t, s, all...)
		known(t, s, waiting...)
	}
}

// TestSubmitOfOneNode: all that it is asked is decided at once, up to MaxSlots (P9.1, P9.2, the document's example).
func TestSubmitOfOneNode(t *testing.T) {
	p := of(1)
	s := p.seq(0)
	sent(t, submits(t, s, "a", "b"))
	logIs(t, s, "a", "b")
	known(t, s, "a", "b")

	s = p.seq(0)
	all := some(api.MaxSlots)
	for i, value := range all {
		sent(t, submits(t, s, value))
		logIs(t, s, all[:i+1]...)
		proofIs(t, s, i, p.at(i).commits(0, value, 0))
		pendingIs(t, s)
		known(t, s, all[:i+1]...)
	}
	refused(t, s, []byte("more"), api.ErrFull)
	known(t, s, all...)
}

// TestANilSeq: Submit answers ErrArg, all else nothing (P9.4).
func TestANilSeq(t *testing.T) {
	var s *seq.Seq
	for _, value := range append(wrong(), []byte("a"), []byte(longest)) {
		refused(t, s, value, api.ErrArg)
	}
	p := of(4)
	for _, m := range []api.Msg{{}, request("a"), p.propose(0, "a"), p.decision(0, "a"), p.at(1).decision(0, "a"), noise(-1), noise(64)} {
		sent(t, s.Take(m))
	}
	sent(t, s.Tick())
	viewIs(t, s, 0)
	logIs(t, s)
	pendingIs(t, s)
	for _, slot := range []int{-1, 0, 1, 64} {
		proofIs(t, s, slot, nil)
	}
}
