package wire_test

import (
	"bytes"
	"math"
	"slices"
	"testing"

	"seneschal/api"
	"seneschal/wire"
)

func TestBodyOfWhatMayBeAndWhatMayNot(t *testing.T) {
	for _, m := range append(msgsThatMayBe(), msgsThatMayNotBe()...) {
		if got, want := wire.Body(m), bodyLaid(m).out(); !bytes.Equal(got, want) {
			t.Errorf("%+v: % x, not % x", m, got, want)
		}
	}
}

func TestKnownBodies(t *testing.T) {
	for _, c := range []struct {
		msg api.Msg
		hex string
	}{
		{api.Msg{}, "04 00 00 00 00 00 00"},
		{api.Msg{Kind: 2, From: 3, To: 9, Slot: 5, View: 6, Value: []byte("ab"), Tag: fullHash}, "04 02 03 05 06 02 6162 00"},
		{api.Msg{Kind: 300, From: -1, Slot: math.MinInt, View: math.MaxInt, Value: []byte{0}}, "04 ac02 00 00 808080808080808040 01 00 00"},
		{api.Msg{Votes: []api.Vote{{Kind: -5, Slot: 64, View: -1, Sum: fullHash, From: 128}}}, "04 00 00 00 00 00 01 00 40 00" + fulls + "8001" + noughts},
	} {
		if got := wire.Body(c.msg); !bytes.Equal(got, unhex(t, c.hex)) {
			t.Errorf("%+v: % x, not %s", c.msg, got, c.hex)
		}
	}
}

func TestVoteBodies(t *testing.T) {
	votes := append(someVotes(12), api.Vote{}, api.Vote{Kind: -1, Slot: -2, View: -3, From: -4})
	for _, f := range voteFields {
		for _, n := range append(f.within(), f.beyond()...) {
			v := aVote(4)
			*f.at(&v) = n
			votes = append(votes, v)
		}
	}
	for _, v := range votes {
		if got, want := wire.VoteBody(v), voteBodyLaid(v).out(); !bytes.Equal(got, want) {
			t.Errorf("%+v: % x, not % x", v, got, want)
		}
	}
	known := api.Vote{Kind: 2, Slot: 63, View: 8, Sum: fullHash, From: 9, Tag: aHash(3)}
	if got, want := wire.VoteBody(known), unhex(t, "05 02 3f 08"+fulls+"09"); !bytes.Equal(got, want) {
		t.Errorf("% x, not % x", got, want)
	}
	other := known
	other.Tag = api.Hash{}
	if !bytes.Equal(wire.VoteBody(known), wire.VoteBody(other)) {
		t.Error("a vote's seal is sealed")
	}
}

// changes: each makes a message another one, by one field alone.
func changes() map[string]func(*api.Msg) {
	all := map[string]func(*api.Msg){
		"Value, its first byte":    func(m *api.Msg) { m.Value[0]++ },
		"Value, its last byte":     func(m *api.Msg) { m.Value[len(m.Value)-1]++ },
		"Value, a byte more":       func(m *api.Msg) { m.Value = append(m.Value, 0) },
		"Value, a byte less":       func(m *api.Msg) { m.Value = m.Value[:len(m.Value)-1] },
		"Value, none":              func(m *api.Msg) { m.Value = nil },
		"Votes, one more":          func(m *api.Msg) { m.Votes = append(m.Votes, aVote(8)) },
		"Votes, one less":          func(m *api.Msg) { m.Votes = m.Votes[:len(m.Votes)-1] },
		"Votes, none":              func(m *api.Msg) { m.Votes = nil },
		"Votes, in another order":  func(m *api.Msg) { m.Votes[0], m.Votes[1] = m.Votes[1], m.Votes[0] },
		"Votes, the last once too": func(m *api.Msg) { m.Votes = append(m.Votes, m.Votes[len(m.Votes)-1]) },
		"Tag, its first byte":      func(m *api.Msg) { m.Tag[0]++ },
		"Tag, its last byte":       func(m *api.Msg) { m.Tag[31]++ },
	}
	for _, f := range msgFields {
		all[f.name] = func(m *api.Msg) { *f.at(m)++ }
		all[f.name+" by 2^32"] = func(m *api.Msg) { *f.at(m) += 1 << 32 }
	}
	for i, which := range []string{"first", "second", "third"} {
		for _, f := range voteFields {
			all[which+" vote's "+f.name] = func(m *api.Msg) { *f.at(&m.Votes[i])++ }
		}
		for at, end := range map[int]string{0: "first", 31: "last"} {
			all[which+" vote's Sum, its "+end+" byte"] = func(m *api.Msg) { m.Votes[i].Sum[at]++ }
			all[which+" vote's Tag, its "+end+" byte"] = func(m *api.Msg) { m.Votes[i].Tag[at]++ }
		}
	}
	return all
}

func TestBodyLeavesOutToAndTag(t *testing.T) {
	want := wire.Body(aMsg())
	for _, to := range []int{math.MinInt, -1, 0, 1, 9, 10, 300, math.MaxInt} {
		m := aMsg()
		m.To = to
		if !bytes.Equal(wire.Body(m), want) {
			t.Error("To:", to)
		}
	}
	for _, tag := range []api.Hash{{}, fullHash, aHash(5)} {
		m := aMsg()
		m.Tag = tag
		if !bytes.Equal(wire.Body(m), want) {
			t.Error("Tag:", tag)
		}
	}
}

func TestBodyHasEachOtherField(t *testing.T) {
	for name, change := range changes() {
		m := aMsg()
		change(&m)
		leftOut := name == "To" || name == "To by 2^32" || name == "Tag, its first byte" || name == "Tag, its last byte"
		if bytes.Equal(wire.Body(m), wire.Body(aMsg())) != leftOut {
			t.Error(name)
		}
	}
}

func TestSameMsgOfOne(t *testing.T) {
	for _, m := range append(append(msgsThatMayBe(), msgsThatMayNotBe()...), api.Msg{}) {
		other := m
		other.Value, other.Votes = bytes.Clone(m.Value), slices.Clone(m.Votes)
		if !wire.SameMsg(m, m) || !wire.SameMsg(m, other) || !wire.SameMsg(other, m) {
			t.Errorf("%+v", m)
		}
	}
}

func TestSameMsgOfTwoThatAreUnlike(t *testing.T) {
	for name, change := range changes() {
		m := aMsg()
		change(&m)
		if wire.SameMsg(m, aMsg()) || wire.SameMsg(aMsg(), m) {
			t.Error(name)
		}
	}
	below := aMsg()
	below.Slot = 0
	other := aMsg()
	other.Slot = -1 // laid as 0, but another number
	if wire.SameMsg(below, other) || wire.SameMsg(other, below) {
		t.Error("0 and -1")
	}
}

func TestSameMsgOfNilAndEmptyRows(t *testing.T) {
	for _, a := range []api.Msg{{}, {Value: []byte{}}, {Votes: []api.Vote{}}, {Value: []byte{}, Votes: []api.Vote{}}} {
		for _, b := range []api.Msg{{}, {Value: make([]byte, 0, 9)}, {Votes: make([]api.Vote, 0, 9)}, {Value: []byte{}, Votes: []api.Vote{}}} {
			if !wire.SameMsg(a, b) || !bytes.Equal(wire.Body(a), wire.Body(b)) {
				t.Error(a, b)
			}
		}
		if wire.SameMsg(a, api.Msg{Value: []byte{0}}) || wire.SameMsg(a, api.Msg{Votes: []api.Vote{{}}}) || wire.SameMsg(api.Msg{Value: []byte{0}}, a) || wire.SameMsg(api.Msg{Votes: []api.Vote{{}}}, a) {
			t.Error("a row with one element is no empty one")
		}
	}
}
