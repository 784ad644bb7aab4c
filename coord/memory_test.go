package coord_test

import (
	"slices"
	"testing"
	"unsafe"

	"seneschal/api"
	"seneschal/coord"
)

var badMark = api.Mark{Kind: -3, Producer: -3, Epoch: -3, Txn: -3}

// spoil overwrites a row and the spare room behind it.
func spoil[T any](row []T, with T) {
	for i := range row[:cap(row)] {
		row[:cap(row)][i] = with
	}
}

// asked overwrites all lists that a Coord answers.
func asked(c *coord.Coord) {
	spoil(c.Marks(), badMark)
	for p := range 8 {
		_, parts, _ := c.Open(p)
		spoil(parts, -7)
	}
}

// TestNothingIsSharedWithTheOutside: a Coord whose answers are overwritten, each at once, does the same as one where nobody touches them (P10.3, W6).
func TestNothingIsSharedWithTheOutside(t *testing.T) {
	c := chance(33)
	marks := 0
	for turn := range 40 {
		d, twin, o := coord.New(), coord.New(), &model{}
		for range 200 {
			op := nextOp(&c, o, turn%20)
			o.apply(op)
			want, wantMarks := twin.Apply(op)
			r, l := d.Apply(op)
			if r != want || !slices.Equal(l, wantMarks) {
				t.Fatalf("%+v: %+v %s, not %+v %s", op, r, told(l), want, told(wantMarks))
			}
			marks += len(l)
			spoil(l, badMark)
			asked(d)
			if toldCoord(d) != toldCoord(twin) {
				t.Fatalf("%s\nnot\n%s", toldCoord(d), toldCoord(twin))
			}
		}
	}
	if marks < 1000 {
		t.Error("too little happened:", marks)
	}
}

// TestAnswersStay: whatever is called later (W7).
func TestAnswersStay(t *testing.T) {
	c := chance(5)
	for turn := range 20 {
		d, o := coord.New(), &model{}
		var got, want [][]api.Mark
		var parts, wantParts [][]int
		for range 200 {
			op := nextOp(&c, o, turn)
			o.apply(op)
			_, l := d.Apply(op)
			for _, list := range [][]api.Mark{l, d.Marks()} {
				got, want = append(got, list), append(want, slices.Clone(list))
			}
			for p := range 8 {
				_, list, _ := d.Open(p)
				parts, wantParts = append(parts, list), append(wantParts, slices.Clone(list))
			}
		}
		if !slices.EqualFunc(got, want, slices.Equal) || !slices.EqualFunc(parts, wantParts, slices.Equal) {
			t.Error("what was answered has changed")
		}
	}
}

// TestANameIsNotKept: not even its memory; there may be more of it than the name (W6).
func TestANameIsNotKept(t *testing.T) {
	row := []byte("name and more")
	d := newDesk(t)
	d.runs(opInit(unsafe.String(&row[0], 4)))
	copy(row, "eman")
	d.does(opInit("eman"), api.Reply{Producer: 1}, inits(1, 0))
	d.does(opInit("name"), api.Reply{Epoch: 1}, inits(0, 1))
}

// TestTwins: Coords of one row of operations are alike, and one does not see what is told another (P10.3, W2).
func TestTwins(t *testing.T) {
	c := chance(77)
	for turn := range 40 {
		d, twin, other, o := coord.New(), coord.New(), coord.New(), &model{}
		var row []api.Op
		for range 200 {
			op := nextOp(&c, o, turn)
			o.apply(op)
			row = append(row, op)
			other.Apply(nextOp(&c, o, 0))
			r, l := d.Apply(op)
			other.Apply(under(c.below(16), c.below(5000), opTick()))
			if k, m := twin.Apply(op); k != r || !slices.Equal(l, m) || toldCoord(d) != toldCoord(twin) {
				t.Fatal(toldCoord(d), toldCoord(twin))
			}
		}
		late := coord.New()
		for _, op := range row {
			late.Apply(op)
		}
		if toldCoord(late) != toldCoord(d) {
			t.Error(toldCoord(late), toldCoord(d))
		}
		for _, op := range row { // all of it again
			late.Apply(op)
		}
		if toldCoord(late) != toldCoord(d) {
			t.Error(toldCoord(late), toldCoord(d))
		}
	}
}
