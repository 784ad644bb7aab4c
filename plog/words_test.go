package plog_test

import (
	"fmt"
	"math"
	"slices"
	"strconv"
	"strings"
	"testing"

	"seneschal/api"
	"seneschal/plog"
)

// book is a Log that is asked about.
type book struct {
	*plog.Log
	t *testing.T
}

func newBook(t *testing.T) *book { return &book{plog.New(), t} }

// bookOf is one where these producers are known, each in that epoch.
func bookOf(t *testing.T, epoch int, producers ...int) *book {
	t.Helper()
	b := newBook(t)
	for _, p := range producers {
		b.learns(p, epoch)
	}
	return b
}

// full is one that has as many records as may be: of producer 1 in epoch 0, all of transaction 1.
func full(t *testing.T) *book {
	t.Helper()
	b := bookOf(t, 0, 1)
	for i := range 128 {
		b.lays(rec(1, 0, 1, i, ""), i)
	}
	return b
}

// learns: an epoch may be learned.
func (b *book) learns(producer, epoch int) {
	b.t.Helper()
	if err := b.Learn(producer, epoch); err != api.OK {
		b.t.Errorf("Learn(%d, %d): %v", producer, epoch, err)
	}
}

// lays: a record is laid at that offset, behind all that were there.
func (b *book) lays(r api.Record, offset int) {
	b.t.Helper()
	want := append(rows(b.Log, 0), toldRecord(offset, r))
	if got, err := b.Append(r); got != offset || err != api.OK {
		b.t.Errorf("%s: at %d %v, not at %d", toldRecord(0, r), got, err, offset)
	}
	if got := rows(b.Log, 0); !slices.Equal(got, want) || b.Len() != offset+1 {
		b.t.Errorf("%d records: %v, not %v", b.Len(), got, want)
	}
}

// has: a record is there at that offset, and nothing changes.
func (b *book) has(r api.Record, offset int) {
	b.t.Helper()
	b.answers(r, offset, api.OK)
}

// errs: a record is not taken, and nothing changes.
func (b *book) errs(r api.Record, err api.Errno) {
	b.t.Helper()
	b.answers(r, 0, err)
}

func (b *book) answers(r api.Record, offset int, err api.Errno) {
	b.t.Helper()
	b.still(func() {
		b.t.Helper()
		if got, e := b.Append(r); got != offset || e != err {
			b.t.Errorf("%s: %d %v, not %d %v", toldRecord(0, r), got, e, offset, err)
		}
	})
}

// ends: a transaction is ended so.
func (b *book) ends(producer, epoch, txn int, commit bool) {
	b.t.Helper()
	if err := b.End(producer, epoch, txn, commit); err != api.OK {
		b.t.Errorf("End(%d, %d, %d, %v): %v", producer, epoch, txn, commit, err)
	}
}

// endErrs: a transaction is not ended so, and nothing changes.
func (b *book) endErrs(producer, epoch, txn int, commit bool, want api.Errno) {
	b.t.Helper()
	b.still(func() {
		b.t.Helper()
		if err := b.End(producer, epoch, txn, commit); err != want {
			b.t.Errorf("End(%d, %d, %d, %v): %v, not %v", producer, epoch, txn, commit, err, want)
		}
	})
}

// still: what the Log tells is the same behind a call as ahead of it.
func (b *book) still(call func()) {
	b.t.Helper()
	was := toldLog(b.Log)
	call()
	if got := toldLog(b.Log); got != was {
		b.t.Errorf("%s\nwas\n%s", got, was)
	}
}

func (b *book) stableIs(want int) {
	b.t.Helper()
	if got := b.Stable(); got != want {
		b.t.Errorf("Stable is %d, not %d: %v", got, want, b.Spans())
	}
}

func (b *book) spansAre(want ...api.Span) {
	b.t.Helper()
	if got := b.Spans(); !slices.Equal(got, want) {
		b.t.Errorf("Spans are %v, not %v", got, want)
	}
}

func (b *book) epochIs(producer, want int) {
	b.t.Helper()
	if got, ok := b.Epoch(producer); got != want || !ok {
		b.t.Errorf("producer %d: epoch %d %v, not %d", producer, got, ok, want)
	}
}

// unknown: no epoch of these producers is known.
func (b *book) unknown(producers ...int) {
	b.t.Helper()
	for _, p := range producers {
		if got, ok := b.Epoch(p); got != 0 || ok {
			b.t.Errorf("producer %d: epoch %d %v", p, got, ok)
		}
	}
}

func rec(producer, epoch, txn, seq int, value string) api.Record {
	return api.Record{Producer: producer, Epoch: epoch, Txn: txn, Seq: seq, Value: []byte(value)}
}

// Ways in which a transaction is there.
const (
	isOpen  = 0
	commits = 2
	aborts  = 3
)

func span(producer, epoch, txn, first, kind int) api.Span {
	return api.Span{Producer: producer, Epoch: epoch, Txn: txn, First: first, Kind: kind}
}

// kindOf is the Kind of a transaction that was ended so.
func kindOf(commit bool) int {
	if commit {
		return commits
	}
	return aborts
}

// toldRecord is a record in words.
func toldRecord(offset int, r api.Record) string {
	var s []byte
	for _, n := range []int{offset, r.Producer, r.Epoch, r.Txn, r.Seq} {
		s = append(strconv.AppendInt(s, int64(n), 10), ' ')
	}
	return string(strconv.AppendQuote(s, string(r.Value)))
}

// rows is what Records tells, in words.
func rows(l *plog.Log, from int) []string {
	var s []string
	for offset, r := range l.Records(from) {
		s = append(s, toldRecord(offset, r))
	}
	return s
}

// toldLog is all that a Log tells of itself.
func toldLog(l *plog.Log) string {
	var s strings.Builder
	fmt.Fprintf(&s, "%d records %q, stable %d, spans %v", l.Len(), rows(l, 0), l.Stable(), l.Spans())
	for p := -1; p <= 8; p++ {
		epoch, ok := l.Epoch(p)
		fmt.Fprintf(&s, ", %d: %d %v", p, epoch, ok)
	}
	return s.String()
}

// outside are numbers below least, and above most.
func outside(least, most int) []int {
	return []int{math.MinInt, math.MinInt + 1, -1 << 32, least - 1, most + 1, most + 2, 1 << 32, 1<<32 + least, math.MaxInt}
}

// chance is a row of numbers that is the same each time.
type chance uint32

// below is the next number of it, 0 or more and below top.
func (c *chance) below(top int) int {
	*c = *c*1664525 + 1013904223
	return int(*c>>16) % top
}

// oneIn is true once in so many times.
func (c *chance) oneIn(times int) bool { return c.below(times) == 0 }

func TestTheNumbersOfTheTestsAreThoseOfPackageApi(t *testing.T) {
	got := []int{api.MaxProducers, api.MaxEpoch, api.MaxTxn, api.MaxSeq, api.MaxValue, api.MaxRecords, api.MarkCommit, api.MarkAbort}
	if want := []int{8, 100, 100, 1 << 20, 200, 128, commits, aborts}; !slices.Equal(got, want) {
		t.Error(got, want)
	}
	errs := []api.Errno{api.OK, api.ErrArg, api.ErrFull, api.ErrNone, api.ErrFenced, api.ErrState, api.ErrGap}
	if want := []api.Errno{0, 1, 3, 4, 5, 6, 8}; !slices.Equal(errs, want) {
		t.Error(errs, want)
	}
}
