package wire

import (
	"bytes"

	"seneschal/api"
	"seneschal/octet"
)

// layRow lays how many there are, and each; of bytes that is what a Writer's Bytes lays.
func layRow[T any](w *octet.Writer, row []T, lay func(*octet.Writer, T)) {
	w.Nums(len(row))
	for _, x := range row {
		lay(w, x)
	}
}

func layByte(w *octet.Writer, b byte) { w.Raw(b) }

func layVote(w *octet.Writer, v api.Vote) {
	laySealed(w, v)
	w.Raw(v.Tag[:]...)
}

// laySealed lays what a vote's node seals of it.
func laySealed(w *octet.Writer, v api.Vote) {
	w.Nums(v.Kind, v.Slot, v.View)
	w.Raw(v.Sum[:]...)
	w.Nums(v.From)
}

func asNumber(yes bool) int {
	if yes {
		return 1
	}
	return 0
}

// decode takes a record, and holds it only where encoding it gives the very same bytes: whatever take read amiss is told by that.
func decode[T any](b []byte, take func(*octet.Reader) T, encode func(T) ([]byte, api.Errno)) (T, api.Errno) {
	r := octet.NewReader(b)
	r.Num() // the lead: encode's own must stand there
	x := take(r)
	again, err := encode(x)
	if err != api.OK || !bytes.Equal(again, b) {
		var none T
		return none, api.ErrForm
	}
	return x, api.OK
}

func takeMsg(r *octet.Reader) api.Msg {
	var m api.Msg
	r.Nums(&m.Kind, &m.From, &m.To, &m.Slot, &m.View)
	m.Value = r.Bytes()
	m.Votes = takeVotes(r)
	m.Tag = takeHash(r)
	return m
}

func takeVotes(r *octet.Reader) []api.Vote {
	count := r.Num()
	if count > api.MaxNodes {
		// The number is the sender's word: no memory is made by it.
		r.Bad()
		return nil
	}
	votes := make([]api.Vote, count)
	for i := range votes {
		v := &votes[i]
		r.Nums(&v.Kind, &v.Slot, &v.View)
		v.Sum = takeHash(r)
		r.Nums(&v.From)
		v.Tag = takeHash(r)
	}
	return votes
}

func takeHash(r *octet.Reader) api.Hash {
	var h api.Hash
	copy(h[:], r.Raw(len(h)))
	return h
}

func takeOp(r *octet.Reader) api.Op {
	var o api.Op
	r.Nums(&o.Kind, &o.Client, &o.Seq)
	o.Name = string(r.Bytes())
	commit := 0
	r.Nums(&o.Producer, &o.Epoch, &o.Txn, &o.Part, &commit)
	o.Commit = commit != 0
	return o
}

func takeMark(r *octet.Reader) api.Mark {
	var m api.Mark
	r.Nums(&m.Kind, &m.Producer, &m.Epoch, &m.Txn)
	return m
}
