package fetch_test

import (
	"math"
	"slices"
	"testing"

	"seneschal/api"
	"seneschal/fetch"
	"seneschal/plog"
)

// P12.2: Each tells all records, in order; or all that Committed tells. A second ranging tells the same.
func TestEachTellsAllOrWhatIsCommitted(t *testing.T) {
	for _, c := range []struct{ words, all, committed string }{
		{"", "", ""},
		{"a1", "0", ""},
		{"a1 a1+", "0", "0"},
		{"a1 a1-", "0", ""},
		{"a1 b1 a1 a1+", "0 1 2", "0"},
		{"a1 b1 a1 b1+", "0 1 2", ""},
		{"a1 b1 a1 a1- b1+", "0 1 2", "1"},
		{"a1 b1 a1 a1+ b1-", "0 1 2", "0 2"},
		{"a1 a1+ a^ a1 b1 b1+", "0 1 2", "0"},
		{"a1 a1+ a^ a1 b1 b1+ a1-", "0 1 2", "0 2"},
		{"a1- b1+ c1 c1+", "0", "0"},
	} {
		s := newStory(t, c.words)
		s.eachIs(false, c.all)
		s.eachIs(true, c.committed)
	}
}

// P12.2: what was committed behind Stable is not told as committed.
func TestEachOfWhatIsCommittedEndsAtStable(t *testing.T) {
	s := mixed(t)
	s.eachIs(false, "0 1 2 3 4 5 6 7")
	s.eachIs(true, "0 1 4 5")
	s.tell("d1-")
	s.eachIs(true, "0 1 4 5 7")
}

// P12.2: it is what Committed and Any tell of the whole log.
func TestEachIsWhatIsReadOfAll(t *testing.T) {
	for _, s := range []*story{mixed(t), broken(t), fullStory(t)} {
		any, _ := fetch.Any(s.Log, 0, math.MaxInt)
		committed, _ := fetch.Committed(s.Log, 0, math.MaxInt)
		s.eachIs(false, offsets(any))
		s.eachIs(true, offsets(committed))
	}
}

// P12.2: one who stops at once or behind some is told no more than that, and may begin again.
func TestEachMayBeStopped(t *testing.T) {
	s := mixed(t)
	for committed, want := range map[bool][]string{false: {"0", "0 1", "0 1 2", "0 1 2 3"}, true: {"0", "0 1", "0 1 4", "0 1 4 5"}} {
		rows := fetch.Each(s.Log, committed)
		for i, w := range want {
			if got := offsets(firstOf(rows, i+1)); got != w {
				t.Errorf("%v: %s, not %s", committed, got, w)
			}
		}
		if got := slices.Collect(rows); len(got) < 4 || offsets(got[:4]) != want[3] {
			t.Errorf("%v: %s", committed, offsets(got))
		}
	}
}

// P12.2: behind one who stops nothing is told: he is not asked again.
func TestEachAsksNoMoreOnceStopped(t *testing.T) {
	s := mixed(t)
	for _, committed := range []bool{false, true} {
		for most := 1; most <= 4; most++ {
			asked := 0
			fetch.Each(s.Log, committed)(func(api.Record) bool {
				asked++
				return asked < most
			})
			if asked != most {
				t.Errorf("%v: asked %d times, not %d", committed, asked, most)
			}
		}
	}
}

// P12.2: two rangings between one another do not disturb each other.
func TestEachMayBeRangedWithin(t *testing.T) {
	s := mixed(t)
	for _, committed := range []bool{false, true} {
		rows := fetch.Each(s.Log, committed)
		all := slices.Collect(rows)
		var outer []api.Record
		for r := range rows {
			outer = append(outer, r)
			if got := slices.Collect(rows); told(got) != told(all) {
				t.Error(told(got))
			}
		}
		if told(outer) != told(all) {
			t.Error(told(outer))
		}
	}
}

// P12.2, W7: what Each answered stays, whatever is laid and ended later, ahead of the ranging and in it.
func TestEachStays(t *testing.T) {
	s := newStory(t, "a1 b1 a1 c1 a1+")
	all, committed := fetch.Each(s.Log, false), fetch.Each(s.Log, true)
	s.tell("b1+ d1 d1+ c1-")
	if got := offsets(slices.Collect(all)); got != "0 1 2 3" {
		t.Error(got)
	}
	if got := offsets(slices.Collect(committed)); got != "0" {
		t.Error(got)
	}
	s.eachIs(false, "0 1 2 3 4")
	s.eachIs(true, "0 1 2 4")

	var got []api.Record
	for r := range fetch.Each(s.Log, true) {
		got = append(got, r)
		s.tell("e1 e1+ f1-")
		s.tell("e^")
	}
	if offsets(got) != "0 1 2 4" {
		t.Error(offsets(got))
	}
	s.eachIs(true, "0 1 2 4 5 6 7 8")
}

// W1: an iterator that is handed no function does nothing.
func TestEachWithoutAFunction(t *testing.T) {
	for _, l := range []*plog.Log{nil, {}, plog.New(), mixed(t).Log} {
		fetch.Each(l, false)(nil)
		fetch.Each(l, true)(nil)
	}
}

// P12.2: of a log that New did not make nothing is told.
func TestEachOfAnEmptyLog(t *testing.T) {
	for _, l := range []*plog.Log{plog.New(), {}} {
		for _, committed := range []bool{false, true} {
			for r := range fetch.Each(l, committed) {
				t.Error(toldRecord(r))
			}
		}
	}
}
