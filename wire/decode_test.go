package wire_test

import (
	"bytes"
	"reflect"
	"slices"
	"testing"

	"seneschal/api"
	"seneschal/wire"
)

// likeMsgs holds two messages against each other without the program's help.
func likeMsgs(a, b api.Msg) bool {
	votesAlike := slices.Equal(a.Votes, b.Votes)
	bytesAlike := bytes.Equal(a.Value, b.Value)
	a.Value, a.Votes, b.Value, b.Votes = nil, nil, nil, nil
	return votesAlike && bytesAlike && reflect.DeepEqual(a, b)
}

func TestDecodeIsWhatWasEncoded(t *testing.T) {
	for _, m := range msgsThatMayBe() {
		b, _ := wire.EncodeMsg(m)
		if got, err := wire.DecodeMsg(b); err != api.OK || !likeMsgs(got, m) || !wire.SameMsg(got, m) {
			t.Errorf("%+v: %v, %+v", m, err, got)
		}
	}
	for _, o := range opsThatMayBe() {
		b, _ := wire.EncodeOp(o)
		if got, err := wire.DecodeOp(b); err != api.OK || got != o {
			t.Errorf("%#v: %v, %#v", o, err, got)
		}
	}
	for _, m := range marksThatMayBe() {
		b, _ := wire.EncodeMark(m)
		if got, err := wire.DecodeMark(b); err != api.OK || got != m {
			t.Errorf("%+v: %v, %+v", m, err, got)
		}
	}
}

func badMsg(t *testing.T, b []byte) {
	t.Helper()
	if m, err := wire.DecodeMsg(b); err != api.ErrForm || len(m.Value) != 0 || len(m.Votes) != 0 || !likeMsgs(m, api.Msg{}) {
		t.Errorf("a message of % x: %v, %+v", b, err, m)
	}
}

func badOp(t *testing.T, b []byte) {
	t.Helper()
	if o, err := wire.DecodeOp(b); err != api.ErrForm || o != (api.Op{}) {
		t.Errorf("an operation of % x: %v, %#v", b, err, o)
	}
}

func badMark(t *testing.T, b []byte) {
	t.Helper()
	if m, err := wire.DecodeMark(b); err != api.ErrForm || m != (api.Mark{}) {
		t.Errorf("a mark of % x: %v, %+v", b, err, m)
	}
}

// amiss: every way to spoil bytes, of a record that is laid so, that leaves none of it (P5.1).
func amiss(l laid) [][]byte {
	whole := l.out()
	var all [][]byte
	for i := range whole {
		all = append(all, whole[:i])
	}
	for _, behind := range [][]byte{{0}, {1}, {0x80}, {0xff}, {0, 0}, whole, make([]byte, 32), make([]byte, 100)} {
		all = append(all, slices.Concat(whole, behind))
	}
	all = append(all, slices.Concat([]byte{0}, whole), slices.Concat(whole[:1], whole), whole[1:])
	for i, p := range l {
		if !p.isRaw {
			ahead, behind := l[:i].out(), l[i+1:].out()
			for _, n := range wrongNumbers(p.number) {
				all = append(all, slices.Concat(ahead, n, behind))
			}
		}
	}
	return all
}

// wrongNumbers are n otherwise than it is written, numbers that no field may be, and bytes that are no number.
func wrongNumbers(n int) [][]byte {
	one := laid{}.nums(n).out()
	last := len(one) - 1
	longer := append(bytes.Clone(one[:last]), one[last]|0x80)
	return [][]byte{
		append(bytes.Clone(longer), 0),
		append(bytes.Clone(longer), 0x80, 0),
		append(bytes.Clone(longer), 0x80, 0x80, 0x80, 0x80, 0x80, 0),
		laid{}.nums(n + 1<<21).out(),
		laid{}.nums(n + 1<<32).out(),
		laid{}.nums(1 << 61).out(),
		laid{}.nums(1 << 62).out(),
		{0x81, 0x80, 0x80, 0x80, 0x80, 0x80, 0x80, 0x80, 0x40},
		{0xff, 0xff, 0xff, 0xff, 0xff, 0xff, 0xff, 0xff, 0x7f},
		{0xff, 0xff, 0xff, 0xff, 0xff, 0xff, 0xff, 0xff, 0xff, 0x01},
		bytes.Repeat([]byte{0x80}, 12),
	}
}

func TestDecodeOfBytesThatAreNone(t *testing.T) {
	for _, none := range [][]byte{nil, {}, {0}, {1}, {2}, {3}, {4}, {0x80}, {0xff}, make([]byte, 40), bytes.Repeat([]byte{1}, 48), bytes.Repeat([]byte{0xff}, 300)} {
		badMsg(t, none)
		badOp(t, none)
		badMark(t, none)
	}
}

func TestDecodeOfSpoiltMessages(t *testing.T) {
	most := api.Msg{Kind: 6, From: 9, To: 9, Slot: 63, View: 8, Value: mixedRow(200), Votes: someVotes(10), Tag: aHash(7)}
	for _, m := range []api.Msg{{Kind: 1}, aMsg(), most} {
		for _, b := range amiss(msgLaid(m)) {
			badMsg(t, b)
		}
	}
}

func TestDecodeOfSpoiltOps(t *testing.T) {
	for _, o := range append([]api.Op{{Kind: 1, Name: "abcdefgh"}, {Kind: 2}, {Kind: 3}, {Kind: 4}}, bareOps...) {
		for _, b := range amiss(opLaid(o)) {
			badOp(t, b)
		}
	}
}

func TestDecodeOfSpoiltMarks(t *testing.T) {
	for _, m := range []api.Mark{{Kind: 1}, {Kind: 1, Producer: 7, Epoch: 100}, {Kind: 2, Producer: 1, Epoch: 2, Txn: 3}, {Kind: 3, Txn: 100}} {
		for _, b := range amiss(markLaid(m)) {
			badMark(t, b)
		}
	}
}

// Records that may not be are no less laid as bytes by others.
func TestDecodeOfWhatMayNotBe(t *testing.T) {
	for _, m := range msgsThatMayNotBe() {
		if b := msgLaid(m).out(); !hasBelowNought(msgLaid(m)) {
			badMsg(t, b)
		}
	}
	for _, o := range opsThatMayNotBe() {
		if b := opLaid(o).out(); !hasBelowNought(opLaid(o)) {
			badOp(t, b)
		}
	}
	for _, m := range marksThatMayNotBe() {
		if b := markLaid(m).out(); !hasBelowNought(markLaid(m)) {
			badMark(t, b)
		}
	}
}

// hasBelowNought: bytes have no such number, it would be laid as 0, which may be.
func hasBelowNought(l laid) bool {
	return slices.ContainsFunc(l, func(p part) bool { return p.number < 0 })
}

func TestCommitIsNoughtOrOne(t *testing.T) {
	for _, o := range bareOps {
		l := opLaid(o)
		for _, n := range []int{2, 3, 127, 128, 129, 256, 1 << 32, 1 << 62} {
			l[len(l)-1].number = n
			badOp(t, l.out())
		}
	}
}

func TestDecodeOfOtherRecords(t *testing.T) {
	leads := []int{0, 1, 2, 3, 4, 5, 6, 7, 128, 129, 130, 131, 256 + 1, 256 + 2, 256 + 3, 1<<32 + 1}
	msg, op, mark := msgLaid(aMsg()), opLaid(bareOps[1]), markLaid(api.Mark{Kind: 2, Producer: 1})
	for _, lead := range leads {
		for _, l := range []laid{msg, op, mark} {
			b := append(laid{}.nums(lead), l[1:]...).out()
			if lead != 1 || l[0].number != 1 {
				badMsg(t, b)
			}
			if lead != 2 || l[0].number != 2 {
				badOp(t, b)
			}
			if lead != 3 || l[0].number != 3 {
				badMark(t, b)
			}
		}
	}
	badMsg(t, wire.Body(aMsg()))
	badOp(t, wire.VoteBody(aVote(1)))
	badMark(t, wire.VoteBody(aVote(1)))
}

// One byte of a record is another one: what is decoded then is encoded as just these bytes, or they are none.
func TestDecodeNeverTakesTwoFormsOfOne(t *testing.T) {
	m, _ := wire.EncodeMsg(aMsg())
	o, _ := wire.EncodeOp(bareOps[0])
	mark, _ := wire.EncodeMark(api.Mark{Kind: 3, Producer: 1, Epoch: 2, Txn: 3})
	forEachByte(m, func(b []byte) {
		if got, err := wire.DecodeMsg(b); err == api.OK {
			again, err := wire.EncodeMsg(got)
			same(t, again, err, b)
		} else {
			badMsg(t, b)
		}
	})
	forEachByte(o, func(b []byte) {
		if got, err := wire.DecodeOp(b); err == api.OK {
			again, err := wire.EncodeOp(got)
			same(t, again, err, b)
		} else {
			badOp(t, b)
		}
	})
	forEachByte(mark, func(b []byte) {
		if got, err := wire.DecodeMark(b); err == api.OK {
			again, err := wire.EncodeMark(got)
			same(t, again, err, b)
		} else {
			badMark(t, b)
		}
	})
}

func forEachByte(row []byte, ask func([]byte)) {
	for i := range row {
		for n := range 256 {
			b := bytes.Clone(row)
			b[i] = byte(n)
			ask(b)
		}
	}
}
