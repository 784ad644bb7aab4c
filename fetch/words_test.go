package fetch_test

import (
	"fmt"
	"iter"
	"math"
	"slices"
	"strconv"
	"strings"
	"testing"

	"seneschal/api"
	"seneschal/fetch"
	"seneschal/plog"
)

// Ways in which a transaction is there.
const (
	isOpen  = 0
	commits = 2
	aborts  = 3
)

// story is a log that was told in words, and what was told.
type story struct {
	*plog.Log
	t      *testing.T
	laid   []api.Record // by their offsets; the Value is the offset as a text
	epochs [8]int
	seqs   [8]int
}

// newStory is a log where all producers are known, in epoch 0, and what the words tell has happened: see tell.
func newStory(t *testing.T, words string) *story {
	t.Helper()
	s := &story{Log: plog.New(), t: t}
	for p := range s.epochs {
		s.learns(p, 0)
	}
	s.tell(words)
	return s
}

// tell is what happens next. A producer is a letter, a to h; a transaction of its epoch is a letter and a number. a1: a record of it; a1+: it is committed; a1-: it is aborted; a^: the next epoch; a1-@0: it is aborted, that one of epoch 0.
func (s *story) tell(words string) {
	s.t.Helper()
	for _, word := range strings.Fields(words) {
		s.word(word)
	}
}

func (s *story) word(word string) {
	s.t.Helper()
	p := int(word[0] - 'a')
	if word[1:] == "^" {
		s.learns(p, s.epochs[p]+1)
		return
	}
	epoch, rest := s.epochs[p], word[1:]
	if head, tail, there := strings.Cut(rest, "@"); there {
		epoch, rest = s.number(tail), head
	}
	txn := s.number(strings.TrimRight(rest, "+-"))
	switch {
	case strings.HasSuffix(rest, "+"):
		s.ends(p, epoch, txn, true)
	case strings.HasSuffix(rest, "-"):
		s.ends(p, epoch, txn, false)
	default:
		s.lays(p, txn)
	}
}

func (s *story) number(text string) int {
	s.t.Helper()
	n, err := strconv.Atoi(text)
	if err != nil {
		s.t.Fatal(err)
	}
	return n
}

func (s *story) learns(producer, epoch int) {
	s.t.Helper()
	if err := s.Learn(producer, epoch); err != api.OK {
		s.t.Fatalf("Learn(%d, %d): %v", producer, epoch, err)
	}
	s.epochs[producer], s.seqs[producer] = epoch, 0
}

func (s *story) lays(producer, txn int) {
	s.t.Helper()
	r := api.Record{Producer: producer, Epoch: s.epochs[producer], Txn: txn, Seq: s.seqs[producer], Value: strconv.AppendInt(nil, int64(len(s.laid)), 10)}
	if offset, err := s.Append(r); offset != len(s.laid) || err != api.OK {
		s.t.Fatalf("%s: %d %v", toldRecord(r), offset, err)
	}
	s.laid = append(s.laid, r)
	s.seqs[producer]++
}

func (s *story) ends(producer, epoch, txn int, commit bool) {
	s.t.Helper()
	if err := s.End(producer, epoch, txn, commit); err != api.OK {
		s.t.Fatalf("End(%d, %d, %d, %v): %v", producer, epoch, txn, commit, err)
	}
}

// fullStory is one whose log is full: of a, records of a transaction that was committed and of one that was aborted in turns.
func fullStory(t *testing.T) *story {
	t.Helper()
	s := newStory(t, "")
	for i := range 32 {
		good, bad := "a"+strconv.Itoa(2*i+1), "a"+strconv.Itoa(2*i+2)
		s.tell(strings.Join([]string{good, good, good + "+", bad, bad, bad + "-"}, " "))
	}
	return s
}

// anyIs: Any tells the records of these offsets, and that offset behind them.
func (s *story) anyIs(from, most int, want string, to int) {
	s.t.Helper()
	list, got := fetch.Any(s.Log, from, most)
	s.piece("Any", from, most, list, got, want, to)
}

// committedIs: Committed does.
func (s *story) committedIs(from, most int, want string, to int) {
	s.t.Helper()
	list, got := fetch.Committed(s.Log, from, most)
	s.piece("Committed", from, most, list, got, want, to)
}

func (s *story) piece(name string, from, most int, list []api.Record, got int, want string, to int) {
	s.t.Helper()
	if told(list) != s.those(want) || got != to {
		s.t.Errorf("%s(%d, %d): %d %s, not %d %s", name, from, most, got, told(list), to, s.those(want))
	}
}

// abortedIs: Aborted tells these spans.
func (s *story) abortedIs(from, to int, want ...api.Span) {
	s.t.Helper()
	if got := fetch.Aborted(s.Log, from, to); !slices.Equal(got, want) {
		s.t.Errorf("Aborted(%d, %d): %v, not %v", from, to, got, want)
	}
}

// eachIs: Each tells the records of these offsets, all of them; and so once more.
func (s *story) eachIs(committed bool, want string) {
	s.t.Helper()
	rows := fetch.Each(s.Log, committed)
	for range 2 {
		if got := told(slices.Collect(rows)); got != s.those(want) {
			s.t.Errorf("Each(%v): %s, not %s", committed, got, s.those(want))
		}
	}
}

// those are the records of some offsets, in words.
func (s *story) those(offsets string) string {
	s.t.Helper()
	var list []api.Record
	for _, offset := range strings.Fields(offsets) {
		list = append(list, s.laid[s.number(offset)])
	}
	return told(list)
}

// offsets are those of records, as a text: the Values of a story's records are their offsets.
func offsets(list []api.Record) string {
	var s []string
	for _, r := range list {
		s = append(s, string(r.Value))
	}
	return strings.Join(s, " ")
}

// row is the offsets from one on and below another, as a text.
func row(from, to int) string {
	var s []string
	for i := from; i < to; i++ {
		s = append(s, strconv.Itoa(i))
	}
	return strings.Join(s, " ")
}

func span(producer, epoch, txn, first, kind int) api.Span {
	return api.Span{Producer: producer, Epoch: epoch, Txn: txn, First: first, Kind: kind}
}

// toldRecord is a record in words.
func toldRecord(r api.Record) string {
	return fmt.Sprintf("%d.%d.%d.%d=%q", r.Producer, r.Epoch, r.Txn, r.Seq, r.Value)
}

// told is records in words.
func told(list []api.Record) string {
	var s []string
	for _, r := range list {
		s = append(s, toldRecord(r))
	}
	return "[" + strings.Join(s, " ") + "]"
}

// toldLog is all that a log tells of itself.
func toldLog(l *plog.Log) string {
	var s strings.Builder
	fmt.Fprintf(&s, "%d records, stable %d, spans %v:", l.Len(), l.Stable(), l.Spans())
	for offset, r := range l.Records(0) {
		fmt.Fprintf(&s, " %d %s", offset, toldRecord(r))
	}
	return s.String()
}

// firstOf is the first so many that an iterator gives.
func firstOf(rows iter.Seq[api.Record], most int) []api.Record {
	var list []api.Record
	for r := range rows {
		list = append(list, r)
		if len(list) >= most {
			break
		}
	}
	return list
}

// far are numbers that are far below 0, and far above all that a log may have.
func far() (below, above []int) {
	return []int{math.MinInt, math.MinInt + 1, -1 << 32, -129, -2, -1}, []int{200, 1 << 31, 1 << 32, math.MaxInt - 1, math.MaxInt}
}

// chance is a row of numbers that is the same each time.
type chance uint32

// below is the next number of it, 0 or more and below top.
func (c *chance) below(top int) int {
	*c = *c*1664525 + 1013904223
	return int(*c>>16) % top
}

// oneIn is true once in so many times.
func (c *chance) oneIn(times int) bool { return c.below(times) == 0 }

func TestTheNumbersOfTheTestsAreThoseOfPackageApi(t *testing.T) {
	if got, want := []int{api.MarkCommit, api.MarkAbort, api.MaxRecords, api.MaxProducers}, []int{commits, aborts, 128, 8}; !slices.Equal(got, want) {
		t.Error(got, want)
	}
}
