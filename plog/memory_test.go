package plog_test

import (
	"bytes"
	"slices"
	"testing"

	"seneschal/api"
	"seneschal/plog"
)

// spoil overwrites a row and the spare room behind it.
func spoil[T any](row []T, with T) {
	for i := range row[:cap(row)] {
		row[:cap(row)][i] = with
	}
}

// asked overwrites all that a Log answers.
func asked(l *plog.Log) {
	spoil(l.Spans(), span(-3, -3, -3, -3, -3))
	for _, r := range l.Records(0) {
		spoil(r.Value, 0xee)
	}
}

// TestWhatIsHandedInIsNeitherChangedNorKept: its spare room too, whether the record is laid, there or not taken (P11.3, W6).
func TestWhatIsHandedInIsNeitherChangedNorKept(t *testing.T) {
	b := bookOf(t, 0, 1)
	for i, x := range []struct {
		seq  int
		want api.Errno
	}{{0, api.OK}, {0, api.OK}, {2, api.ErrGap}, {1, api.OK}, {1, api.OK}} {
		room := []byte("ahead value behind")
		r := rec(1, 0, 1, x.seq, "")
		r.Value = room[6:11]
		if _, err := b.Append(r); err != x.want {
			t.Error(i, err)
		}
		if string(room) != "ahead value behind" {
			t.Errorf("%d: %q", i, room)
		}
		spoil(room, 'x')
	}
	want := []string{toldRecord(0, rec(1, 0, 1, 0, "value")), toldRecord(1, rec(1, 0, 1, 1, "value"))}
	if got := rows(b.Log, 0); !slices.Equal(got, want) {
		t.Error(got)
	}
	b.has(rec(1, 0, 1, 0, "value"), 0)
	b.errs(rec(1, 0, 1, 0, "xxxxx"), api.ErrArg)
}

// TestEachRangingHasItsOwn: no value is shared with another ranging's, nor with another record's (W6, W7).
func TestEachRangingHasItsOwn(t *testing.T) {
	b := bookOf(t, 0, 1)
	for i := range 20 {
		b.lays(rec(1, 0, 1, i, "value"), i)
	}
	l := b.Records(0)
	var values [][]byte
	for range 2 {
		for _, r := range l {
			values = append(values, r.Value)
		}
		for _, r := range b.Records(0) {
			values = append(values, r.Value)
		}
	}
	for i, v := range values {
		spoil(v, byte(i))
	}
	for i, v := range values {
		if !bytes.Equal(v, bytes.Repeat([]byte{byte(i)}, 5)) {
			t.Error(i, v)
		}
	}
	for i, r := range l {
		if string(r.Value) != "value" {
			t.Error(i, r)
		}
	}
}

// TestNothingIsSharedWithTheOutside: a Log whose answers are overwritten, each at once, and all that it is handed, does the same as one where nobody touches them (W6).
func TestNothingIsSharedWithTheOutside(t *testing.T) {
	c := chance(33)
	count := 0
	for turn := range 40 {
		l, twin, o := plog.New(), plog.New(), &model{}
		for range 200 {
			x := next(&c, o, 1+turn%8, 10)
			x.askModel(o)
			want, wantErr := x.ask(twin)
			x.r.Value = bytes.Clone(x.r.Value)
			got, err := x.ask(l)
			spoil(x.r.Value, 0xdd)
			asked(l)
			if got != want || err != wantErr || toldLog(l) != toldLog(twin) {
				t.Fatalf("%v: %d %v, not %d %v:\n%s\nnot\n%s", x, got, err, want, wantErr, toldLog(l), toldLog(twin))
			}
		}
		count += l.Len()
	}
	if count < 1500 {
		t.Error("too little happened:", count)
	}
}

// TestAnswersStay: whatever is called later (W7).
func TestAnswersStay(t *testing.T) {
	c := chance(5)
	for turn := range 30 {
		l, o := plog.New(), &model{}
		var got, want [][]api.Span
		var values, wantValues [][]byte
		for range 150 {
			x := next(&c, o, 1+turn%8, 10)
			x.askModel(o)
			x.ask(l)
			s := l.Spans()
			got, want = append(got, s), append(want, slices.Clone(s))
			for _, r := range l.Records(l.Len() - 2) {
				values, wantValues = append(values, r.Value), append(wantValues, bytes.Clone(r.Value))
			}
		}
		if !slices.EqualFunc(got, want, slices.Equal) || !slices.EqualFunc(values, wantValues, bytes.Equal) {
			t.Error("what was answered has changed")
		}
	}
}

// TestTwins: Logs of one row of calls are alike, and one does not see what is told another (W2).
func TestTwins(t *testing.T) {
	c := chance(77)
	for turn := range 40 {
		l, twin, other, o := plog.New(), plog.New(), plog.New(), &model{}
		for range 200 {
			x := next(&c, o, 1+turn%8, 10)
			x.askModel(o)
			next(&c, o, 8, 10).ask(other)
			got, err := x.ask(l)
			next(&c, o, 8, 10).ask(other)
			if want, wantErr := x.ask(twin); got != want || err != wantErr || toldLog(l) != toldLog(twin) {
				t.Fatal(x, got, err, want, wantErr)
			}
		}
	}
}

// TestAskingChangesNothing: a Log that is asked all the while does the same as one that is not (W2).
func TestAskingChangesNothing(t *testing.T) {
	c := chance(78)
	for turn := range 20 {
		l, twin, o := plog.New(), plog.New(), &model{}
		for range 200 {
			x := next(&c, o, 1+turn%8, 10)
			x.askModel(o)
			x.ask(l)
			x.ask(twin)
			toldLog(l)
		}
		if got, want := toldLog(l), toldLog(twin); got != want {
			t.Error(got, want)
		}
	}
}
