package plog_test

import (
	"math"
	"slices"
	"testing"

	"seneschal/api"
	"seneschal/plog"
)

// six is a book of six records of two producers, one of them in two epochs, and their rows.
func six(t *testing.T) (*book, []string) {
	t.Helper()
	b := bookOf(t, 0, 1, 2)
	l := []api.Record{rec(1, 0, 1, 0, "a"), rec(2, 0, 7, 0, ""), rec(1, 0, 1, 1, "bb"), rec(2, 0, 7, 1, "\x00\xff"), rec(1, 3, 2, 0, "c"), rec(1, 3, 2, 1, "dd")}
	var want []string
	for i, r := range l {
		b.learns(r.Producer, r.Epoch)
		b.lays(r, i)
		want = append(want, toldRecord(i, r))
	}
	b.ends(1, 3, 2, true)
	b.ends(2, 0, 7, false)
	return b, want
}

// TestRecordsFrom: from below 0 all, from an offset those from it on, from the end and behind it none (P11.2).
func TestRecordsFrom(t *testing.T) {
	b, want := six(t)
	for _, from := range []int{math.MinInt, -1 << 32, -6, -5, -1, 0} {
		if got := rows(b.Log, from); !slices.Equal(got, want) {
			t.Errorf("from %d: %v", from, got)
		}
	}
	for from := range 7 {
		if got := rows(b.Log, from); !slices.Equal(got, want[from:]) {
			t.Errorf("from %d: %v", from, got)
		}
	}
	for _, from := range []int{6, 7, 127, 128, 1 << 32, math.MaxInt - 1, math.MaxInt} {
		if got := rows(b.Log, from); len(got) != 0 {
			t.Errorf("from %d: %v", from, got)
		}
	}
}

// TestRecordsOfAnEmptyLog: none (P11.2).
func TestRecordsOfAnEmptyLog(t *testing.T) {
	for _, b := range []*book{newBook(t), bookOf(t, 0, 1)} {
		for _, from := range []int{math.MinInt, -1, 0, 1, math.MaxInt} {
			if got := rows(b.Log, from); len(got) != 0 {
				t.Errorf("from %d: %v", from, got)
			}
		}
	}
}

// TestRecordsTellAllThatWasLaid: open, committed and aborted ones, of elder epochs too, with all their fields (P11.2).
func TestRecordsTellAllThatWasLaid(t *testing.T) {
	b, _ := six(t)
	want := []api.Record{rec(1, 0, 1, 0, "a"), rec(2, 0, 7, 0, ""), rec(1, 0, 1, 1, "bb"), rec(2, 0, 7, 1, "\x00\xff"), rec(1, 3, 2, 0, "c"), rec(1, 3, 2, 1, "dd")}
	count := 0
	for i, r := range b.Records(0) {
		w := want[i]
		if i != count || r.Producer != w.Producer || r.Epoch != w.Epoch || r.Txn != w.Txn || r.Seq != w.Seq || string(r.Value) != string(w.Value) {
			t.Error(i, r)
		}
		count++
	}
	if count != 6 {
		t.Error(count)
	}
}

// TestOneWhoStopsEarly: nothing more is told; a ranging that went on would panic (P11.2).
func TestOneWhoStopsEarly(t *testing.T) {
	b, _ := six(t)
	for stop := range 6 {
		calls := 0
		b.Records(0)(func(i int, r api.Record) bool {
			if i != calls {
				t.Error(i, r)
			}
			calls++
			return i < stop
		})
		if calls != stop+1 {
			t.Errorf("stopped at %d: %d calls", stop, calls)
		}
		last := -1
		for i := range b.Records(2) {
			last = i
			if i == stop {
				break
			}
		}
		if stop >= 2 && last != stop {
			t.Error(last, stop)
		}
	}
}

// TestASecondRanging: over one answer, again and within itself, the same is told (P11.2, W7).
func TestASecondRanging(t *testing.T) {
	b, want := six(t)
	l := b.Records(1)
	tell := func() []string {
		var s []string
		for i, r := range l {
			s = append(s, toldRecord(i, r))
		}
		return s
	}
	for range 3 {
		if got := tell(); !slices.Equal(got, want[1:]) {
			t.Error(got)
		}
	}
	for i := range l {
		if got := tell(); !slices.Equal(got, want[1:]) {
			t.Error(i, got)
		}
		if i == 3 {
			break
		}
	}
	if got := tell(); !slices.Equal(got, want[1:]) {
		t.Error(got)
	}
}

// TestWhatIsAppendedMeanwhile is not told by a ranging that is under way, at whichever step it came; a new one tells it (P11.2, W7).
func TestWhatIsAppendedMeanwhile(t *testing.T) {
	for step := range 6 {
		b, want := six(t)
		var got []string
		for i, r := range b.Records(0) {
			got = append(got, toldRecord(i, r))
			if i == step {
				b.ends(1, 0, 1, true)
				b.learns(3, 0)
				b.lays(rec(3, 0, 1, 0, "new"), 6)
				b.lays(rec(3, 0, 1, 1, "newer"), 7)
			}
		}
		if !slices.Equal(got, want) {
			t.Error(got)
		}
		if got := rows(b.Log, 5); len(got) != 3 {
			t.Error(got)
		}
	}
}

// TestOneAppendedAtEveryStep: the ranging ends all the same (P11.2, W1).
func TestOneAppendedAtEveryStep(t *testing.T) {
	b := bookOf(t, 0, 1)
	for i := range 10 {
		b.lays(rec(1, 0, 1, i, "a"), i)
	}
	steps := 0
	for i := range b.Records(0) {
		b.lays(rec(1, 0, 1, 10+i, "b"), 10+i)
		steps++
	}
	if steps != 10 || b.Len() != 20 {
		t.Error(steps, b.Len())
	}
}

// TestRecordsStayWhatTheyWere: what Records answered tells what was there when it was called, also where it is ranged over later (W7).
func TestRecordsStayWhatTheyWere(t *testing.T) {
	b := bookOf(t, 0, 1)
	tell := func(k int) int {
		count := 0
		for i := range b.Records(k) {
			count += i + 1
		}
		return count
	}
	early, late := b.Records(0), b.Records(3)
	b.lays(rec(1, 0, 1, 0, "a"), 0)
	one := b.Records(-1)
	for i := 1; i < 128; i++ {
		b.lays(rec(1, 0, 1, i, "b"), i)
	}
	for i, r := range early {
		t.Error(i, r)
	}
	for i, r := range late {
		t.Error(i, r)
	}
	count := 0
	for i, r := range one {
		count++
		if i != 0 || string(r.Value) != "a" {
			t.Error(i, r)
		}
	}
	if count != 1 || tell(0) != 128*129/2 {
		t.Error(count, tell(0))
	}
}

// TestRangingOverTwoLogs hand in hand: one is not told the other's (W2).
func TestRangingOverTwoLogs(t *testing.T) {
	b, want := six(t)
	other := bookOf(t, 0, 5)
	other.lays(rec(5, 0, 1, 0, "x"), 0)
	for range b.Records(0) {
		for i, r := range other.Records(0) {
			if toldRecord(i, r) != toldRecord(0, rec(5, 0, 1, 0, "x")) {
				t.Error(i, r)
			}
		}
	}
	if got := rows(b.Log, 0); !slices.Equal(got, want) {
		t.Error(got)
	}
}

// TestRecordsWithoutARanger: nobody to tell, and no panic (W1).
func TestRecordsWithoutARanger(t *testing.T) {
	b, _ := six(t)
	b.Records(0)(nil)
	b.Records(9)(nil)
	plog.New().Records(0)(nil)
	var none *plog.Log
	none.Records(0)(nil)
}

// TestARangerWhoPanics leaves the Log as it is (W1).
func TestARangerWhoPanics(t *testing.T) {
	b, want := six(t)
	func() {
		defer func() {
			if recover() != "enough" {
				t.Error("the ranger's own panic is kept from it")
			}
		}()
		for i := range b.Records(0) {
			if i == 2 {
				panic("enough")
			}
		}
	}()
	if got := rows(b.Log, 0); !slices.Equal(got, want) {
		t.Error(got)
	}
}
