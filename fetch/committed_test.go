package fetch_test

import (
	"math"
	"testing"

	"seneschal/fetch"
	"seneschal/plog"
)

// P12.1: of the records below Stable those whose transaction was committed, and the offset behind the last one that was looked at: with most told that is the last one told, with fewer all below Stable.
func TestCommittedTellsThePiece(t *testing.T) {
	s := mixed(t)
	s.committedIs(0, 1, "0", 1)
	s.committedIs(0, 2, "0 1", 2)
	s.committedIs(0, 3, "0 1 4", 5)
	s.committedIs(1, 1, "1", 2)
	s.committedIs(1, 2, "1 4", 5)
	s.committedIs(2, 1, "4", 5)
	s.committedIs(2, 2, "4 5", 6)
	s.committedIs(3, 1, "4", 5)
	s.committedIs(4, 1, "4", 5)
	s.committedIs(5, 1, "5", 6)
}

// P12.1: with just as many as there are, one more, and more than there may be, all are told.
func TestCommittedTellsAllThatAreThere(t *testing.T) {
	s := mixed(t)
	for from, want := range []string{"0 1 4 5", "1 4 5", "4 5", "4 5", "4 5", "5"} {
		n := (len(want) + 1) / 2
		for _, most := range []int{n, n + 1, 8, 128, 1 << 32, math.MaxInt - 1, math.MaxInt} {
			s.committedIs(from, most, want, 6)
		}
	}
}

// P12.1: an offset below 0 is 0.
func TestCommittedFromBelow0IsFrom0(t *testing.T) {
	s := mixed(t)
	below, _ := far()
	for _, from := range below {
		s.committedIs(from, 1, "0", 1)
		s.committedIs(from, 3, "0 1 4", 5)
		s.committedIs(from, math.MaxInt, "0 1 4 5", 6)
		s.committedIs(from, 0, "", 0)
		s.committedIs(from, math.MinInt, "", 0)
	}
}

// P12.1: at Stable, between it and Len, at Len and above nothing is told, and the offset stays where it is; what was committed behind Stable is not told yet.
func TestCommittedAtStableAndAboveIsNothing(t *testing.T) {
	s := mixed(t)
	_, above := far()
	for _, from := range append([]int{6, 7, 8, 9, 128, 129}, above...) {
		for _, most := range []int{math.MinInt, -1, 0, 1, 2, 128, math.MaxInt} {
			s.committedIs(from, most, "", from)
		}
	}
}

// P12.1: with most 0 or below nothing is told, and the offset stays where it is: nothing was looked at.
func TestCommittedOfNoneIsNothing(t *testing.T) {
	s := mixed(t)
	below, _ := far()
	for _, most := range append([]int{0}, below...) {
		for from := range 10 {
			s.committedIs(from, most, "", from)
		}
	}
}

// P12.1: records that are left out at the front, in the middle and behind the last one told: with most told the offset is ahead of those behind the last one, with fewer behind them.
func TestCommittedLooksAtWhatItLeavesOut(t *testing.T) {
	s := newStory(t, "a1 a1 b1 c1 c1 b1 d1 d1 d1 a1- b1+ c1- d1-")
	s.committedIs(0, 1, "2", 3)
	s.committedIs(1, 1, "2", 3)
	s.committedIs(2, 1, "2", 3)
	s.committedIs(3, 1, "5", 6)
	s.committedIs(0, 2, "2 5", 6)
	s.committedIs(5, 1, "5", 6)
	s.committedIs(0, 3, "2 5", 9)
	s.committedIs(3, 2, "5", 9)
	s.committedIs(5, 2, "5", 9)
	for _, from := range []int{6, 7, 8} {
		s.committedIs(from, 1, "", 9)
		s.committedIs(from, math.MaxInt, "", 9)
	}
	s.committedIs(9, 1, "", 9)
}

// P12.1: the same ahead of one that is open: what is left out is looked at up to Stable, and no further.
func TestCommittedLooksUpToStable(t *testing.T) {
	s := newStory(t, "a1 b1 b1 a1 b1 c1 b1 a1+ b1-")
	s.committedIs(0, 1, "0", 1)
	s.committedIs(0, 2, "0 3", 4)
	s.committedIs(0, 3, "0 3", 5)
	s.committedIs(4, 1, "", 5)
	s.committedIs(5, 1, "", 5)
	s.committedIs(6, 1, "", 6)
}

// P12.1: with none open all is below Stable.
func TestCommittedWithNoneOpen(t *testing.T) {
	for words, want := range map[string]string{
		"a1 a1 a1 a1+": "0 1 2", "a1 a1 a1 a1-": "", "a1 b1 a1 a1- b1+": "1", "a1 a1+ a2 a2- a3 a3+": "0 2",
	} {
		s := newStory(t, words)
		s.committedIs(0, 9, want, 3)
		s.committedIs(-1, math.MaxInt, want, 3)
		s.committedIs(3, 9, "", 3)
		s.committedIs(4, 9, "", 4)
	}
}

// P12.1: a transaction that goes on behind Stable is told up to Stable: an open one holds up all that is behind its first record, and that is the first record of any that is open.
func TestCommittedIsHeldUpByTheFirstThatIsOpen(t *testing.T) {
	s := newStory(t, "a1 b1 a1 c1 a1 a1+")
	s.committedIs(0, 9, "0", 1)
	s.tell("b1-")
	s.committedIs(0, 9, "0 2", 3)
	s.committedIs(1, 9, "2", 3)
	s.tell("c1+")
	s.committedIs(0, 9, "0 2 3 4", 5)

	first := newStory(t, "a1 b1 c1 b1+ c1+")
	first.committedIs(0, 9, "", 0)
	first.committedIs(1, 9, "", 1)
	first.tell("a1-")
	first.committedIs(0, 9, "1 2", 3)
}

// P12.1: several producers' transactions between one another, open, committed and aborted, of the same and of other numbers: each record goes by its own transaction.
func TestCommittedGoesByTheWholeTransaction(t *testing.T) {
	s := newStory(t, "a1 b1 c2 d2 a1 b1 c2 d2 a1+ b1- c2- d2+ a2 b2 c1 d1 a2- b2+ c1+ d1-")
	s.committedIs(0, 99, "0 3 4 7 9 10", 12)
	s.committedIs(0, 4, "0 3 4 7", 8)
	s.committedIs(8, 1, "9", 10)
	s.committedIs(8, 2, "9 10", 11)
	s.committedIs(8, 3, "9 10", 12)

	s.tell("e1 f1 a3 b3 c3 d3 g1 h1 b3+ g1+")
	s.committedIs(0, 99, "0 3 4 7 9 10", 12)
	s.tell("e1- f1+ a3-")
	s.committedIs(12, 99, "13 15", 16)
	s.tell("c3+ d3- h1-")
	s.committedIs(12, 99, "13 15 16 18", 20)
}

// P12.1: transactions of elder epochs, by their epoch, too: the same number may have been aborted in one and committed in another.
func TestCommittedOfElderEpochs(t *testing.T) {
	s := newStory(t, "a1 a1+ a2 b1 a^ a1 b1+ a2-@0 a1-")
	s.committedIs(0, 99, "0 2", 4)
	s.tell("a^ a1 a2-@1 a1+ a^ a1")
	s.committedIs(0, 99, "0 2 4", 5)
}

// P12.1: an elder epoch's transaction that is open still holds up what is behind it, and is told when it is committed.
func TestCommittedOfAnElderEpochThatIsOpen(t *testing.T) {
	s := newStory(t, "b1 b1+ a1 a^ a1 a1+")
	s.committedIs(0, 99, "0", 1)
	s.tell("a1+@0")
	s.committedIs(1, 99, "1 2", 3)

	aborted := newStory(t, "b1 b1+ a1 a^ a1 a1+ a1-@0")
	aborted.committedIs(0, 99, "0 2", 3)
	aborted.committedIs(1, 1, "2", 3)
}

// P12.1: a transaction without a record changes nothing that is told.
func TestCommittedWithTransactionsWithoutARecord(t *testing.T) {
	s := newStory(t, "h9+ h8- a1 a2+ a1+ g9- a3 a4- a3-")
	s.committedIs(0, 99, "0", 2)
	s.committedIs(1, 99, "", 2)
	s.committedIs(-1, 1, "0", 1)
}

// P12.1: what is committed later is told later; what was aborted never is.
func TestCommittedLater(t *testing.T) {
	s := newStory(t, "a1 b1 b1 c1")
	s.committedIs(0, 9, "", 0)
	s.tell("b1+")
	s.committedIs(0, 9, "", 0)
	s.tell("a1+")
	s.committedIs(0, 9, "0 1 2", 3)
	s.tell("c1-")
	s.committedIs(0, 9, "0 1 2", 4)
	s.tell("d1 d1")
	s.committedIs(3, 9, "", 4)
	s.committedIs(4, 9, "", 4)
	s.tell("d1+")
	s.committedIs(3, 9, "4 5", 6)
}

// P12.1: of a log without records nothing is told; so of one that New did not make.
func TestCommittedOfAnEmptyLog(t *testing.T) {
	for _, s := range []*story{newStory(t, ""), newStory(t, "a1+ b1-"), {Log: plog.New(), t: t}, {Log: &plog.Log{}, t: t}} {
		s.committedIs(0, 9, "", 0)
		s.committedIs(-3, 9, "", 0)
		s.committedIs(3, 9, "", 3)
		s.committedIs(0, 0, "", 0)
	}
}

// P12.1: a full log: two records in four are committed.
func TestCommittedOfAFullLog(t *testing.T) {
	s := fullStory(t)
	list, to := fetch.Committed(s.Log, 0, math.MaxInt)
	if len(list) != 64 || to != 128 || offsets(list[:6]) != "0 1 4 5 8 9" || offsets(list[62:]) != "124 125" {
		t.Errorf("%d %s", to, told(list))
	}
	if list, to = fetch.Committed(s.Log, 0, 64); len(list) != 64 || to != 126 {
		t.Errorf("%d %s", to, told(list))
	}
	s.committedIs(124, 3, "124 125", 128)
	s.committedIs(124, 2, "124 125", 126)
	s.committedIs(125, 1, "125", 126)
	s.committedIs(126, 1, "", 128)
	s.committedIs(127, 1, "", 128)
	s.committedIs(128, 1, "", 128)
	s.committedIs(129, 1, "", 129)
}

// P12.1: a full log of one transaction that is open, and one where only the last record's is.
func TestCommittedOfAFullLogThatIsOpen(t *testing.T) {
	s := newStory(t, "")
	for range 128 {
		s.tell("a1")
	}
	s.committedIs(0, 200, "", 0)
	s.committedIs(127, 200, "", 127)
	s.tell("a1+")
	s.committedIs(0, 200, row(0, 128), 128)

	last := newStory(t, "")
	for range 127 {
		last.tell("a1")
	}
	last.tell("a1+ b1")
	last.committedIs(0, 200, row(0, 127), 127)
	last.committedIs(127, 200, "", 127)
}
