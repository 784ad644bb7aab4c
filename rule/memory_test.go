package rule_test

import (
	"bytes"
	"slices"
	"testing"

	"seneschal/api"
	"seneschal/rule"
	"seneschal/seal"
)

// roomyLock is a lock whose rows have spare room behind them.
func roomyLock(k rule.Lock) rule.Lock {
	return rule.Lock{View: k.View, Value: roomy(k.Value, spare), Votes: roomy(k.Votes, spareVote)}
}

// untouchedLock tells whether a lock is still what roomyLock made.
func untouchedLock(k, was rule.Lock) bool {
	return k.View == was.View && untouched(k.Value, was.Value, spare) && untouched(k.Votes, was.Votes, spareVote)
}

func spoilLock(k rule.Lock) {
	spoil(k.Value, 0xee)
	spoil(k.Votes, spareVote)
}

func copyLock(k rule.Lock) rule.Lock {
	return rule.Lock{View: k.View, Value: slices.Clone(k.Value), Votes: slices.Clone(k.Votes)}
}

// someLocks prove views, or nothing.
func someLocks(r *seal.Ring) []rule.Lock {
	return []rule.Lock{
		rule.Free(), locked(1, "a", proof(r, 1, "a")), locked(2, "b", append(proof(r, 2, "b"), make([]api.Vote, 12)...)),
		locked(0, "", proof(r, 0, "")), locked(3, "c", short(r, 3, "c")), locked(7, "d", proof(r, 2, "d")),
	}
}

func TestWhatProvesIsHandedIsNeitherChangedNorKept(t *testing.T) {
	for _, r := range []*seal.Ring{ringOf(1), ringOf(4), ringOf(10), nil} {
		for _, k := range someLocks(ringOf(4)) {
			l, value := roomy(k.Votes, spareVote), roomy(k.Value, spare)
			view, ok := rule.Proves(r, l, slot, 3, value)
			if !untouched(l, k.Votes, spareVote) || !untouched(value, k.Value, spare) {
				t.Errorf("%q: what was handed in was changed", k.Value)
			}
			spoil(l, spareVote)
			spoil(value, 0xee)
			if again, same := rule.Proves(r, k.Votes, slot, 3, k.Value); again != view || same != ok {
				t.Errorf("%q: what was handed in is kept", k.Value)
			}
		}
	}
}

func TestWhatMayIsHandedIsNeitherChangedNorKept(t *testing.T) {
	for _, r := range []*seal.Ring{ringOf(1), ringOf(4), nil} {
		for _, was := range someLocks(ringOf(4)) {
			for _, p := range someLocks(ringOf(4)) {
				k, why, value := roomyLock(was), roomy(p.Votes, spareVote), roomy(p.Value, spare)
				got := rule.May(r, k, slot, 5, value, why)
				if !untouchedLock(k, was) || !untouched(why, p.Votes, spareVote) || !untouched(value, p.Value, spare) {
					t.Errorf("%q and %q: what was handed in was changed", was.Value, p.Value)
				}
				spoilLock(k)
				spoil(why, spareVote)
				spoil(value, 0xee)
				if rule.May(r, was, slot, 5, p.Value, p.Votes) != got {
					t.Errorf("%q and %q: what was handed in is kept", was.Value, p.Value)
				}
			}
		}
	}
}

func TestWhatHigherIsHandedIsNeitherChangedNorKept(t *testing.T) {
	for _, r := range []*seal.Ring{ringOf(4), nil} {
		for _, one := range someLocks(ringOf(4)) {
			for _, two := range someLocks(ringOf(4)) {
				a, b := roomyLock(one), roomyLock(two)
				got := rule.Higher(r, slot, 4, a, b)
				if !untouchedLock(a, one) || !untouchedLock(b, two) {
					t.Errorf("%q and %q: what was handed in was changed", one.Value, two.Value)
				}
				want := copyLock(got)
				spoilLock(a)
				spoilLock(b)
				isLock(t, got, want)
				isLock(t, rule.Higher(r, slot, 4, one, two), want)
			}
		}
	}
}

// TestWhatHigherAnswersIsNewMemory: overwritten, its spare room too, it changes neither a lock that was handed in nor another answer (P7.3, W6).
func TestWhatHigherAnswersIsNewMemory(t *testing.T) {
	r := ringOf(4)
	for _, one := range someLocks(r) {
		for _, two := range someLocks(r) {
			a, b := roomyLock(one), roomyLock(two)
			first, second := rule.Higher(r, slot, 4, a, b), rule.Higher(r, slot, 4, a, b)
			want := copyLock(second)
			spoilLock(first)
			isLock(t, second, want)
			if !untouchedLock(a, one) || !untouchedLock(b, two) {
				t.Errorf("%q and %q: the answer shares what was handed in", one.Value, two.Value)
			}
			isLock(t, rule.Higher(r, slot, 4, a, b), want)
		}
	}
	k := roomyLock(locked(2, "b", proof(r, 2, "b")))
	got := rule.Higher(r, slot, 4, k, k)
	spoilLock(got)
	if !untouchedLock(k, locked(2, "b", proof(r, 2, "b"))) {
		t.Error("one lock handed in twice is shared")
	}
}

func TestWhatIsInTheSpareRoomDoesNotCount(t *testing.T) {
	r := ringOf(4)
	enough := proof(r, 2, "xy")
	proves(t, r, enough[:2], slot, 3, "xy", -1)
	if view, ok := rule.Proves(r, enough, slot, 3, []byte("xy")[:1]); view != -1 || ok {
		t.Error("bytes behind the end of a value count:", view)
	}
	may(t, r, locked(1, "a", nil), 3, "xy", enough[:2], false)
	if rule.May(r, locked(1, "xy", nil), slot, 3, []byte("xy")[:1], nil) {
		t.Error("bytes behind the end of a value are its own")
	}
	isFree(t, rule.Higher(r, slot, 3, locked(2, "xy", enough[:2]), rule.Lock{View: 2, Value: []byte("xy")[:1], Votes: enough}))
}

// TestFreeIsNewEachTime: what is made of one is not seen in another (W6, W7).
func TestFreeIsNewEachTime(t *testing.T) {
	k := rule.Free()
	k.View, k.Value, k.Votes = 3, append(k.Value, 'x'), append(k.Votes, spareVote)
	isFree(t, rule.Free())
	r := ringOf(4)
	one, two := rule.Higher(r, slot, 3, rule.Free(), rule.Free()), rule.Higher(r, slot, 3, rule.Free(), rule.Free())
	one.Value, one.Votes = append(one.Value, 'x'), append(one.Votes, spareVote)
	two.Value, two.Votes = append(two.Value, 'y'), append(two.Votes, api.Vote{})
	if !bytes.Equal(one.Value, []byte("x")) || one.Votes[0] != spareVote {
		t.Error("two answers share their room")
	}
}

// TestAnswersStayAndAreTheSameEachTime: whatever was asked meanwhile (W2, W7).
func TestAnswersStayAndAreTheSameEachTime(t *testing.T) {
	r := ringOf(7)
	a, b := locked(9, "a", proof(r, 1, "a")), locked(0, "b", proof(r, 3, "b"))
	told := rule.Higher(r, slot, 4, a, b)
	want := locked(3, "b", proof(r, 3, "b"))
	for turn := range 20 {
		rule.Higher(r, turn, turn, b, a)
		rule.Higher(ringOf(4), slot, 4, told, locked(turn, "c", proof(ringOf(4), turn, "c")))
		rule.May(r, told, slot, turn, []byte("c"), proof(r, turn, "c"))
		rule.Proves(r, told.Votes, turn, turn, told.Value)
		rule.Leader(turn, turn, 7)
		isLock(t, told, want)
		isLock(t, rule.Higher(ringOf(7), slot, 4, a, b), want)
		proves(t, r, a.Votes, slot, 4, "a", 1)
	}
}
