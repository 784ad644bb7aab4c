package fetch_test

import (
	"math"
	"slices"
	"testing"

	"seneschal/api"
	"seneschal/fetch"
	"seneschal/plog"
)

// reading is Any or Committed.
type reading func(l *plog.Log, from, most int) ([]api.Record, int)

// piecewise is what is read piece by piece from an offset on, by the offsets that are told, until nothing more comes, with the offset at which it ends. A piece that is not whole is the last one.
func piecewise(t *testing.T, read reading, l *plog.Log, from int, most func() int) ([]api.Record, int) {
	t.Helper()
	var list []api.Record
	for range 300 {
		n := most()
		piece, to := read(l, from, n)
		if to < from || len(piece) > n || len(piece) > 0 && to == from {
			t.Fatalf("of %d from %d on: %s, to %d", n, from, told(piece), to)
		}
		list = append(list, piece...)
		from = to
		if len(piece) < n {
			return list, to
		}
	}
	t.Fatal("reading does not end")
	return nil, 0
}

// P12.3: read piece by piece by the offsets that are told, all is read and nothing twice, whatever the piece's length, the log and the beginning are.
func TestPieceByPieceIsAll(t *testing.T) {
	read := map[bool]int{}
	for _, s := range someStories(t) {
		for committed, call := range map[bool]reading{false: fetch.Any, true: fetch.Committed} {
			end := s.Len()
			if committed {
				end = s.Stable()
			}
			for from := range s.Len() + 3 {
				want, _ := call(s.Log, from, math.MaxInt)
				for most := 1; most <= 6; most++ {
					got, to := piecewise(t, call, s.Log, from, func() int { return most })
					if told(got) != told(want) || to != max(from, end) {
						t.Fatalf("%v from %d on by %d: to %d %s, not %s", committed, from, most, to, told(got), told(want))
					}
				}
				read[committed] += len(want)
			}
		}
	}
	if read[false] < 9999 || read[true] < 2000 {
		t.Error("too little was read", read)
	}
}

// P12.3: the same with pieces of unlike lengths; what Each tells is what is read so.
func TestPiecesOfUnlikeLengths(t *testing.T) {
	c := chance(5)
	for _, s := range someStories(t) {
		for committed, call := range map[bool]reading{false: fetch.Any, true: fetch.Committed} {
			want := told(slices.Collect(fetch.Each(s.Log, committed)))
			got, _ := piecewise(t, call, s.Log, 0, func() int { return 1 + c.below(4) })
			if told(got) != want {
				t.Fatalf("%v: %s, not %s", committed, told(got), want)
			}
		}
	}
}

// P12.3: one who reads on while the log grows reads all, and nothing twice: what is read as committed only grows.
func TestReadingOnWhileTheLogGrows(t *testing.T) {
	for seed := range 60 {
		c := chance(seed)
		s := newStory(t, "")
		all := trail{t: t, read: fetch.Any}
		committed := trail{t: t, read: fetch.Committed}
		for range 60 {
			s.goesOn(&c)
			all.goesOn(s.Log, c.below(4)-1)
			committed.goesOn(s.Log, c.below(4)-1)
		}
		s.endsAll(&c)
		all.goesOn(s.Log, math.MaxInt)
		committed.goesOn(s.Log, math.MaxInt)
		for of, x := range map[bool]trail{false: all, true: committed} {
			if want := told(slices.Collect(fetch.Each(s.Log, of))); told(x.list) != want || x.from != s.Len() {
				t.Fatalf("%d %v: at %d %s, not %s", seed, of, x.from, told(x.list), want)
			}
		}
	}
}

// trail is one who reads on.
type trail struct {
	t    *testing.T
	read reading
	from int
	list []api.Record
}

func (x *trail) goesOn(l *plog.Log, most int) {
	x.t.Helper()
	piece, to := x.read(l, x.from, most)
	if to < x.from {
		x.t.Fatalf("from %d back to %d", x.from, to)
	}
	x.list, x.from = append(x.list, piece...), to
}

// P12.3, W8: of a nil Log nothing is read, and the offset is from, of 0 at least.
func TestOfANilLogNothingIsRead(t *testing.T) {
	below, above := far()
	for _, from := range slices.Concat(below, []int{0, 1, 2, 5, 127, 128}, above) {
		for _, most := range slices.Concat(below, []int{0, 1, 9}, above) {
			for _, read := range []reading{fetch.Any, fetch.Committed} {
				if list, to := read(nil, from, most); len(list) != 0 || to != max(from, 0) {
					t.Errorf("from %d, most %d: %s, to %d", from, most, told(list), to)
				}
			}
			if got := fetch.Aborted(nil, from, most); len(got) != 0 {
				t.Error(got)
			}
		}
	}
	for _, committed := range []bool{false, true} {
		for r := range fetch.Each(nil, committed) {
			t.Error(toldRecord(r))
		}
	}
}

// The document's example: of an open transaction's records Committed tells none.
func TestTheDocumentsExample(t *testing.T) {
	s := newStory(t, "a1 a1 a1")
	s.committedIs(0, 9, "", 0)
	s.eachIs(true, "")
	s.anyIs(0, 9, "0 1 2", 3)
}
