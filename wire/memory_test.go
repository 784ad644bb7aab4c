package wire_test

import (
	"bytes"
	"slices"
	"testing"

	"seneschal/api"
	"seneschal/wire"
)

var spareVote = api.Vote{Kind: -7, Slot: -7, View: -7, Sum: aHash(41), From: -7, Tag: aHash(42)}

// roomyMsg is aMsg with spare room behind its rows.
func roomyMsg() api.Msg {
	m := aMsg()
	m.Value = roomy(m.Value)
	votes := append(slices.Clone(m.Votes), spareVote, spareVote, spareVote)
	m.Votes = votes[:len(m.Votes):len(votes)]
	return m
}

func untouchedMsg(m api.Msg) bool {
	want := roomyMsg()
	return likeMsgs(m, aMsg()) && untouched(m.Value, aMsg().Value) && slices.Equal(m.Votes[:cap(m.Votes)], want.Votes[:cap(want.Votes)])
}

func TestWhatIsHandedInIsNotChanged(t *testing.T) {
	m := roomyMsg()
	wire.EncodeMsg(m)
	wire.Body(m)
	wire.SameMsg(m, m)
	wire.SameMsg(m, aMsg())
	if !untouchedMsg(m) {
		t.Errorf("%+v", m)
	}
	bad := roomyMsg()
	bad.Kind = 0
	wire.EncodeMsg(bad)
	bad.Kind = aMsg().Kind
	if !untouchedMsg(bad) {
		t.Errorf("%+v", bad)
	}
	for _, row := range [][]byte{msgLaid(aMsg()).out(), opLaid(bareOps[0]).out(), markLaid(api.Mark{Kind: 2}).out(), nil, {1, 2}} {
		b := roomy(row)
		wire.DecodeMsg(b)
		wire.DecodeOp(b)
		wire.DecodeMark(b)
		if !untouched(b, row) {
			t.Errorf("% x: % x", row, b[:cap(b)])
		}
	}
}

func TestWhatIsEncodedKeepsNothing(t *testing.T) {
	m := roomyMsg()
	first, _ := wire.EncodeMsg(m)
	body := wire.Body(m)
	spoil(m.Value, 0xee)
	spoil(m.Votes, spareVote)
	same(t, first, api.OK, msgLaid(aMsg()).out())
	same(t, body, api.OK, bodyLaid(aMsg()).out())
	if b, err := wire.EncodeMsg(aMsg()); err != api.OK || !bytes.Equal(b, first) {
		t.Error("a message is kept")
	}
}

func TestWhatIsEncodedIsNewMemory(t *testing.T) {
	m := roomyMsg()
	first, _ := wire.EncodeMsg(m)
	second, _ := wire.EncodeMsg(m)
	body, otherBody := wire.Body(m), wire.Body(m)
	spoil(first, 0xee)
	spoil(body, 0xee)
	if !untouchedMsg(m) {
		t.Error("an answer shares memory with what was handed in")
	}
	same(t, second, api.OK, msgLaid(aMsg()).out())
	same(t, otherBody, api.OK, bodyLaid(aMsg()).out())

	op, _ := wire.EncodeOp(bareOps[0])
	otherOp, _ := wire.EncodeOp(bareOps[0])
	spoil(op, 0xee)
	same(t, otherOp, api.OK, opLaid(bareOps[0]).out())
	mark, _ := wire.EncodeMark(api.Mark{Kind: 2, Txn: 3})
	otherMark, _ := wire.EncodeMark(api.Mark{Kind: 2, Txn: 3})
	spoil(mark, 0xee)
	same(t, otherMark, api.OK, markLaid(api.Mark{Kind: 2, Txn: 3}).out())
	vote, otherVote := wire.VoteBody(aVote(2)), wire.VoteBody(aVote(2))
	spoil(vote, 0xee)
	same(t, otherVote, api.OK, voteBodyLaid(aVote(2)).out())
}

func TestWhatIsDecodedIsNewMemory(t *testing.T) {
	row := msgLaid(aMsg()).out()
	b := roomy(row)
	first, _ := wire.DecodeMsg(b)
	second, _ := wire.DecodeMsg(b)
	spoil(b, 0xee)
	if !likeMsgs(first, aMsg()) || !likeMsgs(second, aMsg()) {
		t.Error("a message shares memory with its bytes")
	}
	b = roomy(row)
	third, _ := wire.DecodeMsg(b)
	spoil(third.Value, 0xee)
	if !untouched(b, row) || !slices.Equal(third.Votes, aMsg().Votes) || !likeMsgs(first, aMsg()) {
		t.Error("Value shares memory")
	}
	spoil(second.Votes, spareVote)
	if !bytes.Equal(second.Value, aMsg().Value) || !likeMsgs(first, aMsg()) {
		t.Error("Votes share memory")
	}

	opRow := roomy(opLaid(bareOps[0]).out())
	op, _ := wire.DecodeOp(opRow)
	spoil(opRow, 'x')
	if op != bareOps[0] {
		t.Error("an operation shares memory with its bytes")
	}
}

func TestAnswersAreTheSameEachTime(t *testing.T) {
	for range 3 {
		for _, m := range msgsThatMayBe() {
			b, err := wire.EncodeMsg(m)
			same(t, b, err, msgLaid(m).out())
			wire.EncodeMsg(api.Msg{})
			wire.DecodeMsg(b[:3])
			got, err := wire.DecodeMsg(b)
			if err != api.OK || !likeMsgs(got, m) {
				t.Errorf("%+v: %v", m, err)
			}
		}
	}
}
