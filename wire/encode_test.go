package wire_test

import (
	"bytes"
	"encoding/hex"
	"strings"
	"testing"

	"seneschal/api"
	"seneschal/wire"
)

// knownMsgs: messages and their bytes, written out by hand (P5.1).
var knownMsgs = []struct {
	msg api.Msg
	hex string
}{
	{api.Msg{Kind: 1}, "01 01 00 00 00 00 00 00" + noughts},
	{api.Msg{Kind: 6, From: 9, To: 8, Slot: 63, View: 7, Value: []byte("abc"), Tag: fullHash}, "01 06 09 08 3f 07 03 616263 00" + fulls},
	{api.Msg{Kind: 3, Votes: []api.Vote{{Kind: 2, Slot: 40, View: 8, Sum: fullHash, From: 9}}}, "01 03 00 00 00 00 00 01 02 28 08" + fulls + "09" + noughts + noughts},
	{api.Msg{Kind: 5, To: 1, Value: bytes.Repeat([]byte{0x61}, 200), Votes: []api.Vote{{Kind: 1, Tag: fullHash}, {Kind: 3, From: 4}}}, "01 05 00 01 00 00 c801" + strings.Repeat("61", 200) + "02 01 00 00" + noughts + "00" + fulls + "03 00 00" + noughts + "04" + noughts + noughts},
}

var (
	noughts  = strings.Repeat("00", 32)
	fulls    = strings.Repeat("ff", 32)
	fullHash = api.Hash(bytes.Repeat([]byte{0xff}, 32))
)

var knownOps = []struct {
	op  api.Op
	hex string
}{
	{api.Op{Kind: 1, Client: 15, Seq: 1 << 20, Name: "abcdefgh"}, "02 01 0f 808040 08 6162636465666768 00 00 00 00 00"},
	{api.Op{Kind: 1, Name: "z"}, "02 01 00 00 01 7a 00 00 00 00 00"},
	{api.Op{Kind: 2, Client: 1, Seq: 128, Producer: 7, Epoch: 99, Txn: 100, Part: 3}, "02 02 01 8001 00 07 63 64 03 00"},
	{api.Op{Kind: 3, Client: 2, Seq: 127, Producer: 5, Epoch: 1, Txn: 2, Commit: true}, "02 03 02 7f 00 05 01 02 00 01"},
	{api.Op{Kind: 3, Client: 2, Seq: 127, Producer: 5, Epoch: 1, Txn: 2}, "02 03 02 7f 00 05 01 02 00 00"},
	{api.Op{Kind: 4, Client: 3, Seq: 4}, "02 04 03 04 00 00 00 00 00 00"},
}

var knownMarks = []struct {
	mark api.Mark
	hex  string
}{
	{api.Mark{Kind: api.MarkCommit, Producer: 1, Epoch: 2, Txn: 3}, "03 02 01 02 03"}, // the document's example
	{api.Mark{Kind: api.MarkInit, Producer: 7, Epoch: 100}, "03 01 07 64 00"},
	{api.Mark{Kind: api.MarkAbort, Producer: 0, Epoch: 4, Txn: 100}, "03 03 00 04 64"},
}

func unhex(t *testing.T, s string) []byte {
	t.Helper()
	b, err := hex.DecodeString(strings.ReplaceAll(s, " ", ""))
	if err != nil {
		t.Fatal(err)
	}
	return b
}

func TestKnownRecords(t *testing.T) {
	for _, c := range knownMsgs {
		b, err := wire.EncodeMsg(c.msg)
		same(t, b, err, unhex(t, c.hex))
		if m, err := wire.DecodeMsg(unhex(t, c.hex)); err != api.OK || !likeMsgs(m, c.msg) {
			t.Error(c.hex, m, err)
		}
	}
	for _, c := range knownOps {
		b, err := wire.EncodeOp(c.op)
		same(t, b, err, unhex(t, c.hex))
		if o, err := wire.DecodeOp(unhex(t, c.hex)); err != api.OK || o != c.op {
			t.Error(c.hex, o, err)
		}
	}
	for _, c := range knownMarks {
		b, err := wire.EncodeMark(c.mark)
		same(t, b, err, unhex(t, c.hex))
		if m, err := wire.DecodeMark(unhex(t, c.hex)); err != api.OK || m != c.mark {
			t.Error(c.hex, m, err)
		}
	}
}

func same(t *testing.T, got []byte, err api.Errno, want []byte) {
	t.Helper()
	if err != api.OK || !bytes.Equal(got, want) {
		t.Errorf("%v: % x, not % x", err, got, want)
	}
}

func TestEncodeMsgOfWhatMayBe(t *testing.T) {
	for _, m := range msgsThatMayBe() {
		b, err := wire.EncodeMsg(m)
		same(t, b, err, msgLaid(m).out())
	}
}

func TestEncodeOpOfWhatMayBe(t *testing.T) {
	for _, o := range opsThatMayBe() {
		b, err := wire.EncodeOp(o)
		same(t, b, err, opLaid(o).out())
	}
}

func TestEncodeMarkOfWhatMayBe(t *testing.T) {
	for _, m := range marksThatMayBe() {
		b, err := wire.EncodeMark(m)
		same(t, b, err, markLaid(m).out())
	}
}

func TestEncodeOfWhatMayNotBe(t *testing.T) {
	for _, m := range msgsThatMayNotBe() {
		if b, err := wire.EncodeMsg(m); err != api.ErrArg || len(b) != 0 {
			t.Errorf("%+v: %v, % x", m, err, b)
		}
	}
	for _, o := range opsThatMayNotBe() {
		if b, err := wire.EncodeOp(o); err != api.ErrArg || len(b) != 0 {
			t.Errorf("%#v: %v, % x", o, err, b)
		}
	}
	for _, m := range marksThatMayNotBe() {
		if b, err := wire.EncodeMark(m); err != api.ErrArg || len(b) != 0 {
			t.Errorf("%+v: %v, % x", m, err, b)
		}
	}
}

func TestValueMayBeNilOrEmpty(t *testing.T) {
	bare, empty := aMsg(), aMsg()
	bare.Value, bare.Votes = nil, nil
	empty.Value, empty.Votes = []byte{}, []api.Vote{}
	b, err := wire.EncodeMsg(bare)
	again, err2 := wire.EncodeMsg(empty)
	same(t, b, err, again)
	same(t, again, err2, b)
}
