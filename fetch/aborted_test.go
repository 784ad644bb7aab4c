package fetch_test

import (
	"math"
	"testing"

	"seneschal/api"
	"seneschal/fetch"
	"seneschal/plog"
)

// broken is offsets 0 to 7: a1 b1 a1 c1 b1 d1 e1 e1; b1, d1 and e1 are aborted, a1 is committed, c1 is open, so Stable is 3; two more are aborted without a record.
func broken(t *testing.T) *story {
	t.Helper()
	return newStory(t, "a1 f1- b1 a1 c1 b1 d1 e1 e1 e1- b1- a1+ d1- g1-")
}

// P12.2: the spans that were aborted and have a record, in the order in which they came, be they below Stable or not.
func TestAbortedTellsSpans(t *testing.T) {
	s := broken(t)
	s.abortedIs(0, 8, span(1, 0, 1, 1, aborts), span(3, 0, 1, 5, aborts), span(4, 0, 1, 6, aborts))
	s.abortedIs(0, 99, span(1, 0, 1, 1, aborts), span(3, 0, 1, 5, aborts), span(4, 0, 1, 6, aborts))
}

// P12.2: a span counts by its first record alone: at from, not at to.
func TestAbortedGoesByTheFirstRecord(t *testing.T) {
	s := broken(t)
	b, d, e := span(1, 0, 1, 1, aborts), span(3, 0, 1, 5, aborts), span(4, 0, 1, 6, aborts)
	spans := map[int]api.Span{1: b, 5: d, 6: e}
	for from := range 10 {
		for to := range 10 {
			var want []api.Span
			for first := from; first < to; first++ {
				if s, there := spans[first]; there {
					want = append(want, s)
				}
			}
			s.abortedIs(from, to, want...)
		}
	}
	s.abortedIs(1, 2, b)
	s.abortedIs(2, 5)
	s.abortedIs(4, 6, d)
	s.abortedIs(5, 7, d, e)
	s.abortedIs(7, 8)
}

// P12.2: from may be below 0, yet a span without a record, whose First is -1, is not told; to may be above Len.
func TestAbortedFarAndWide(t *testing.T) {
	s := broken(t)
	all := []api.Span{span(1, 0, 1, 1, aborts), span(3, 0, 1, 5, aborts), span(4, 0, 1, 6, aborts)}
	below, above := far()
	for _, from := range below {
		for _, to := range append([]int{7, 8, 9, 128}, above...) {
			s.abortedIs(from, to, all...)
		}
		s.abortedIs(from, 6, all[:2]...)
		s.abortedIs(from, 0)
		s.abortedIs(from, 1)
		for _, to := range below {
			s.abortedIs(from, to)
		}
	}
	for _, to := range above {
		s.abortedIs(2, to, all[1:]...)
		s.abortedIs(7, to)
		s.abortedIs(8, to)
		for _, from := range above {
			s.abortedIs(from, to)
		}
	}
}

// P12.2: where from and to are alike, or turned, none is.
func TestAbortedOfNoRoom(t *testing.T) {
	s := broken(t)
	for n := -3; n < 11; n++ {
		s.abortedIs(n, n)
		for to := -3; to < n; to++ {
			s.abortedIs(n, to)
		}
		s.abortedIs(n, math.MinInt)
		s.abortedIs(math.MaxInt, n)
	}
}

// P12.2: what is committed, open, or aborted without a record is not told.
func TestAbortedLeavesOutTheOthers(t *testing.T) {
	for _, words := range []string{"", "a1", "a1 a1+", "a1 b1 a1 b1+", "a1-", "a1- b2- b3- c1", "a1+ b1-", "a1 a^ a1 a1+@0"} {
		s := newStory(t, words)
		s.abortedIs(0, 99)
		s.abortedIs(math.MinInt, math.MaxInt)
	}
}

// P12.2: a transaction is told as soon as it is aborted; one that was aborted ahead of its first record never has one.
func TestAbortedLater(t *testing.T) {
	s := newStory(t, "a1 b1 b1 a1")
	s.abortedIs(0, 9)
	s.tell("b1-")
	s.abortedIs(0, 9, span(1, 0, 1, 1, aborts))
	s.tell("a1- c1-")
	s.abortedIs(0, 9, span(0, 0, 1, 0, aborts), span(1, 0, 1, 1, aborts))
	if _, err := s.Append(api.Record{Producer: 2, Txn: 1}); err != api.ErrState {
		t.Error(err)
	}
	s.abortedIs(-1, 9, span(0, 0, 1, 0, aborts), span(1, 0, 1, 1, aborts))
}

// P12.2: the order is that in which they came: not that in which they were ended, nor that of producers, epochs or numbers; each with its own epoch.
func TestAbortedIsInOrder(t *testing.T) {
	s := newStory(t, "c2 b9 c^ a7 c1 b9- c1- b3 c2-@0 b3- a7- b^ b1 b1- a1-")
	s.abortedIs(0, 9,
		span(2, 0, 2, 0, aborts), span(1, 0, 9, 1, aborts), span(0, 0, 7, 2, aborts),
		span(2, 1, 1, 3, aborts), span(1, 0, 3, 4, aborts), span(1, 1, 1, 5, aborts))
	s.abortedIs(2, 5, span(0, 0, 7, 2, aborts), span(2, 1, 1, 3, aborts), span(1, 0, 3, 4, aborts))
}

// P12.2: of an empty log none is; so of one that New did not make.
func TestAbortedOfAnEmptyLog(t *testing.T) {
	for _, l := range []*plog.Log{plog.New(), {}} {
		if got := fetch.Aborted(l, math.MinInt, math.MaxInt); len(got) != 0 {
			t.Error(got)
		}
	}
}

// P12.2: a full log has all that were aborted in it.
func TestAbortedOfAFullLog(t *testing.T) {
	s := fullStory(t)
	var want []api.Span
	for i := range 32 {
		want = append(want, span(0, 0, 2*i+2, 4*i+2, aborts))
	}
	s.abortedIs(0, 128, want...)
	s.abortedIs(0, 127, want...)
	s.abortedIs(0, 126, want[:31]...)
	s.abortedIs(126, 127, want[31])
	s.abortedIs(127, 128)
}
