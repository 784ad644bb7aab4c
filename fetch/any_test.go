package fetch_test

import (
	"math"
	"testing"

	"seneschal/plog"
)

// mixed is offsets 0 to 7: a1 a1 b1 b1 a1 c1 d1 e1; a1, c1 and e1 are committed, b1 is aborted, d1 is open, so Stable is 6.
func mixed(t *testing.T) *story {
	t.Helper()
	s := newStory(t, "a1 a1 b1 b1 a1 c1 d1 e1 a1+ b1- c1+ e1+")
	if s.Stable() != 6 || s.Len() != 8 {
		t.Fatal(toldLog(s.Log))
	}
	return s
}

// P12.1: the first most records from an offset on, whatever became of their transactions, and the offset behind the last one.
func TestAnyTellsThePiece(t *testing.T) {
	s := mixed(t)
	s.anyIs(0, 1, "0", 1)
	s.anyIs(0, 3, "0 1 2", 3)
	s.anyIs(2, 1, "2", 3)
	s.anyIs(3, 4, "3 4 5 6", 7)
	s.anyIs(5, 2, "5 6", 7)
	s.anyIs(6, 1, "6", 7)
	s.anyIs(6, 2, "6 7", 8)
	s.anyIs(7, 1, "7", 8)
}

// P12.1: with just as many as there are, one more, and more than there may be, all are told.
func TestAnyTellsAllThatAreThere(t *testing.T) {
	s := mixed(t)
	for from := range 8 {
		s.anyIs(from, 8-from-1, row(from, 7), 7)
		for _, most := range []int{8 - from, 8 - from + 1, 8, 9, 128, 1 << 32, math.MaxInt - 1, math.MaxInt} {
			s.anyIs(from, most, row(from, 8), 8)
		}
	}
}

// P12.1: an offset below 0 is 0.
func TestAnyFromBelow0IsFrom0(t *testing.T) {
	s := mixed(t)
	below, _ := far()
	for _, from := range below {
		s.anyIs(from, 1, "0", 1)
		s.anyIs(from, 8, row(0, 8), 8)
		s.anyIs(from, math.MaxInt, row(0, 8), 8)
		s.anyIs(from, 0, "", 0)
		s.anyIs(from, math.MinInt, "", 0)
	}
}

// P12.1: from Len on nothing is told, and the offset stays where it is.
func TestAnyAtLenAndAboveIsNothing(t *testing.T) {
	s := mixed(t)
	_, above := far()
	for _, from := range append([]int{8, 9, 128, 129}, above...) {
		for _, most := range []int{math.MinInt, -1, 0, 1, 2, 128, math.MaxInt} {
			s.anyIs(from, most, "", from)
		}
	}
}

// P12.1: with most 0 or below nothing is told, and the offset stays where it is.
func TestAnyOfNoneIsNothing(t *testing.T) {
	s := mixed(t)
	below, _ := far()
	for _, most := range append([]int{0}, below...) {
		for from := range 10 {
			s.anyIs(from, most, "", from)
		}
	}
}

// P12.1: of a log without records nothing is told; so of one that New did not make.
func TestAnyOfAnEmptyLog(t *testing.T) {
	for _, s := range []*story{newStory(t, ""), newStory(t, "a1+ b1-"), {Log: plog.New(), t: t}, {Log: &plog.Log{}, t: t}} {
		s.anyIs(0, 9, "", 0)
		s.anyIs(-3, 9, "", 0)
		s.anyIs(3, 9, "", 3)
		s.anyIs(0, 0, "", 0)
	}
}

// P12.1: a full log has all its records.
func TestAnyOfAFullLog(t *testing.T) {
	s := fullStory(t)
	s.anyIs(0, 127, row(0, 127), 127)
	s.anyIs(0, 128, row(0, 128), 128)
	s.anyIs(0, 129, row(0, 128), 128)
	s.anyIs(-7, math.MaxInt, row(0, 128), 128)
	s.anyIs(126, 1, "126", 127)
	s.anyIs(127, 1, "127", 128)
	s.anyIs(127, 2, "127", 128)
	s.anyIs(128, 1, "", 128)
	s.anyIs(129, 1, "", 129)
}

// P12.1: what is open, aborted, of an elder epoch or behind Stable is told by Any as all else.
func TestAnyLeavesNothingOut(t *testing.T) {
	for _, words := range []string{
		"a1 a1 a1", "a1 a1+ b1 b1- c1", "a1 b1 b1 b1+", "a1 a1- a2 a2- a3 a3-", "a1 a^ a1 a1-@0 a1+", "a1 b1 a^ a1 b1 b^ b2",
	} {
		s := newStory(t, words)
		n := s.Len()
		s.anyIs(0, n, row(0, n), n)
		s.anyIs(1, n, row(1, n), n)
		s.anyIs(0, n-1, row(0, n-1), n-1)
	}
}

// P12.1: a record that is laid later is told later.
func TestAnyTellsWhatIsLaidLater(t *testing.T) {
	s := newStory(t, "a1 b1")
	s.anyIs(0, 9, "0 1", 2)
	s.tell("b1")
	s.anyIs(2, 9, "2", 3)
	s.tell("b1+ a1- c1 c1")
	s.anyIs(3, 1, "3", 4)
	s.anyIs(0, 9, "0 1 2 3 4", 5)
}
