package fetch_test

import (
	"iter"
	"math"
	"slices"
	"testing"

	"seneschal/api"
	"seneschal/fetch"
)

// spoil writes over a list, and over the spare room behind it.
func spoil(list []api.Record) {
	list = list[:cap(list)]
	for i := range list {
		value := list[i].Value[:cap(list[i].Value)]
		for j := range value {
			value[j] = '#'
		}
		list[i] = api.Record{Producer: 9, Epoch: 9, Txn: 9, Seq: 9}
	}
}

// spoilSpans does so with spans.
func spoilSpans(list []api.Span) {
	list = list[:cap(list)]
	for i := range list {
		list[i] = span(9, 9, 9, 9, 9)
	}
}

// answers are all lists that may be answered of a log.
func answers(s *story) [][]api.Record {
	any, _ := fetch.Any(s.Log, 0, math.MaxInt)
	part, _ := fetch.Any(s.Log, 1, 3)
	committed, _ := fetch.Committed(s.Log, 0, math.MaxInt)
	some, _ := fetch.Committed(s.Log, 0, 3)
	return [][]api.Record{any, part, committed, some, slices.Collect(fetch.Each(s.Log, false)), slices.Collect(fetch.Each(s.Log, true))}
}

// toldAnswers is the same in words.
func toldAnswers(s *story) string {
	text := ""
	for _, list := range answers(s) {
		text += told(list)
	}
	return text
}

// W6: who writes over what was answered, spare room too, changes neither the log nor another answer.
func TestAnswersAreNewMemory(t *testing.T) {
	for _, make := range []func(*testing.T) *story{mixed, broken, fullStory} {
		s := make(t)
		was, wasTold := toldLog(s.Log), toldAnswers(s)
		for i, list := range answers(s) {
			spoil(list)
			if got := toldLog(s.Log); got != was {
				t.Fatalf("answer %d: %s\nwas\n%s", i, got, was)
			}
			if got := toldAnswers(s); got != wasTold {
				t.Fatalf("answer %d: %s\nwas\n%s", i, got, wasTold)
			}
		}
	}
}

// W6: no two answers share anything, nor do two records of one.
func TestNoTwoAnswersShare(t *testing.T) {
	s := mixed(t)
	lists := answers(s)
	var texts []string
	for _, list := range lists {
		texts = append(texts, told(list))
	}
	for i, list := range lists {
		spoil(list)
		for j := i + 1; j < len(lists); j++ {
			if got := told(lists[j]); got != texts[j] {
				t.Errorf("%d by %d: %s, was %s", j, i, got, texts[j])
			}
		}
	}
	for i, list := range answers(s) {
		for j := range list {
			text := told(list[j+1:])
			spoil(list[j : j+1 : j+1])
			if got := told(list[j+1:]); got != text {
				t.Errorf("%d: %s, was %s", i, got, text)
			}
		}
	}
}

// W6: the spans that are answered are new memory.
func TestSpansAreNewMemory(t *testing.T) {
	s := broken(t)
	was := toldLog(s.Log)
	first, second := fetch.Aborted(s.Log, 0, 9), fetch.Aborted(s.Log, 0, 9)
	spoilSpans(first)
	if got := toldLog(s.Log); got != was {
		t.Errorf("%s\nwas\n%s", got, was)
	}
	want := []api.Span{span(1, 0, 1, 1, aborts), span(3, 0, 1, 5, aborts), span(4, 0, 1, 6, aborts)}
	if !slices.Equal(second, want) {
		t.Error(second)
	}
	s.abortedIs(0, 9, want...)
}

// W6: what an iterator gives may be written over, ahead of the next one and of the next ranging.
func TestWhatEachGivesIsTheCallersOwn(t *testing.T) {
	s := mixed(t)
	was := toldLog(s.Log)
	for committed, want := range map[bool]string{false: "0 1 2 3 4 5 6 7", true: "0 1 4 5"} {
		rows := fetch.Each(s.Log, committed)
		for range 3 {
			if got := spoiledEach(rows); got != s.those(want) {
				t.Errorf("%v: %s", committed, got)
			}
		}
	}
	if got := toldLog(s.Log); got != was {
		t.Errorf("%s\nwas\n%s", got, was)
	}
}

// spoiledEach is what an iterator gives, in words, each record written over as soon as it was told.
func spoiledEach(rows iter.Seq[api.Record]) string {
	text := ""
	for r := range rows {
		if text != "" {
			text += " "
		}
		text += toldRecord(r)
		spoil([]api.Record{r})
	}
	return "[" + text + "]"
}

// W7: what was answered stays, whatever the log is told later.
func TestAnswersStay(t *testing.T) {
	s := mixed(t)
	lists, spans := answers(s), fetch.Aborted(s.Log, 0, 9)
	var texts []string
	for _, list := range lists {
		texts = append(texts, told(list))
	}
	s.tell("d1+ b^ b1 f1 f2+ b1- a2 a2-")
	for i, list := range lists {
		if got := told(list); got != texts[i] {
			t.Errorf("%d: %s, was %s", i, got, texts[i])
		}
	}
	if want := []api.Span{span(1, 0, 1, 2, aborts)}; !slices.Equal(spans, want) {
		t.Error(spans)
	}
}

// P12.3, W6: a log that was read is as it was: reading is no more than that.
func TestReadingChangesNothing(t *testing.T) {
	for _, s := range []*story{newStory(t, ""), mixed(t), broken(t), fullStory(t)} {
		was := toldLog(s.Log)
		for _, from := range numbers(s.Len()) {
			for _, most := range numbers(s.Len()) {
				fetch.Any(s.Log, from, most)
				fetch.Committed(s.Log, from, most)
				fetch.Aborted(s.Log, from, most)
			}
		}
		firstOf(fetch.Each(s.Log, false), 2)
		firstOf(fetch.Each(s.Log, true), 2)
		if got := toldLog(s.Log); got != was {
			t.Errorf("%s\nwas\n%s", got, was)
		}
	}
}

// P0.6, W2: of two logs that were told the same the same is read, whatever was read of one of them ahead.
func TestTwinsAreReadAlike(t *testing.T) {
	for seed := range 40 {
		one, other := chance(seed), chance(seed)
		a, b := newStory(t, ""), newStory(t, "")
		for range 50 {
			a.goesOn(&one)
			b.goesOn(&other)
			answers(a)
		}
		if toldAnswers(a) != toldAnswers(b) || !slices.Equal(fetch.Aborted(a.Log, 0, 99), fetch.Aborted(b.Log, 0, 99)) {
			t.Fatal(toldAnswers(a), toldAnswers(b))
		}
	}
}

// W6: a record without a Value, and one of the longest, are told as they are.
func TestValuesOfAnyLength(t *testing.T) {
	s := newStory(t, "")
	long := make([]byte, 200)
	for i := range long {
		long[i] = byte(i + 100)
	}
	for i, value := range [][]byte{nil, {}, {0}, long} {
		if _, err := s.Append(api.Record{Txn: 1, Seq: i, Value: value}); err != api.OK {
			t.Fatal(err)
		}
	}
	s.tell("a1+")
	for _, list := range answers(s) {
		for _, r := range list {
			if want := [][]byte{nil, nil, {0}, long}[r.Seq]; string(r.Value) != string(want) {
				t.Errorf("%d: %v", r.Seq, r.Value)
			}
		}
	}
	if n := len(slices.Collect(fetch.Each(s.Log, true))); n != 4 {
		t.Error(n)
	}
}
