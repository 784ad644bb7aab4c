package wire

import (
	"seneschal/api"
)

func msgMayBe(m api.Msg) bool {
	if !within(m.Kind, api.MsgRequest, api.MsgMark) || !nodeMayBe(m.From) || !nodeMayBe(m.To) || !roundMayBe(m.Slot, m.View) {
		return false
	}
	if len(m.Value) > api.MaxValue || len(m.Votes) > api.MaxNodes {
		return false
	}
	for _, v := range m.Votes {
		if !voteMayBe(v) {
			return false
		}
	}
	return true
}

func voteMayBe(v api.Vote) bool {
	return within(v.Kind, api.VotePrepare, api.VoteMark) && roundMayBe(v.Slot, v.View) && nodeMayBe(v.From)
}

func nodeMayBe(n int) bool { return within(n, 0, api.MaxNodes-1) }

func roundMayBe(slot, view int) bool {
	return within(slot, 0, api.MaxSlots-1) && within(view, 0, api.MaxView)
}

func opMayBe(o api.Op) bool {
	if !within(o.Kind, api.OpInit, api.OpTick) || !within(o.Client, 0, api.MaxClient) || !within(o.Seq, 0, api.MaxSeq) {
		return false
	}
	if o != named(o) || o.Kind == api.OpInit && !nameMayBe(o.Name) {
		return false
	}
	return txnMayBe(o.Producer, o.Epoch, o.Txn) && within(o.Part, 0, api.MaxPart)
}

// named is the operation with only those fields that its kind names.
func named(o api.Op) api.Op {
	bare := api.Op{Kind: o.Kind, Client: o.Client, Seq: o.Seq}
	switch o.Kind {
	case api.OpInit:
		bare.Name = o.Name
	case api.OpAdd:
		bare.Producer, bare.Epoch, bare.Txn, bare.Part = o.Producer, o.Epoch, o.Txn, o.Part
	case api.OpEnd:
		bare.Producer, bare.Epoch, bare.Txn, bare.Commit = o.Producer, o.Epoch, o.Txn, o.Commit
	}
	return bare
}

func nameMayBe(name string) bool {
	if !within(len(name), 1, api.MaxName) {
		return false
	}
	for i := range len(name) {
		if name[i] < 'a' || name[i] > 'z' {
			return false
		}
	}
	return true
}

func markMayBe(m api.Mark) bool {
	if m.Kind == api.MarkInit && m.Txn != 0 {
		return false
	}
	return within(m.Kind, api.MarkInit, api.MarkAbort) && txnMayBe(m.Producer, m.Epoch, m.Txn)
}

func txnMayBe(producer, epoch, txn int) bool {
	return within(producer, 0, api.MaxProducers-1) && within(epoch, 0, api.MaxEpoch) && within(txn, 0, api.MaxTxn)
}

func within(n, least, greatest int) bool { return least <= n && n <= greatest }
