package plog

import (
	"bytes"

	"seneschal/api"
)

// writer is a producer in the epoch that is known of it.
type writer struct {
	epoch   int
	offsets []int // of this epoch's records, by their Seq
}

// lets is the error of one who writes in that epoch.
func (w *writer) lets(epoch int) api.Errno {
	switch {
	case w == nil:
		return api.ErrNone
	case epoch < w.epoch:
		return api.ErrFenced
	case epoch > w.epoch:
		return api.ErrState
	}
	return api.OK
}

// again is what a record is answered whose Seq is there already, at that offset; its producer and epoch are the same.
func (l *Log) again(offset int, r api.Record) (int, api.Errno) {
	if was := l.records[offset]; was.Txn != r.Txn || !bytes.Equal(was.Value, r.Value) {
		return 0, api.ErrArg
	}
	return offset, api.OK
}

// takes is the error of a record whose Seq is not there yet.
func (l *Log) takes(w *writer, r api.Record) api.Errno {
	switch {
	case r.Seq != len(w.offsets):
		return api.ErrGap
	case l.ended(of(r)) || l.busy(w, r.Txn):
		return api.ErrState
	case len(l.records) >= api.MaxRecords:
		return api.ErrFull
	}
	return api.OK
}

// busy tells whether another transaction of this epoch is open; that can only be the one that was written to last, since none is begun while one is open.
func (l *Log) busy(w *writer, txn int) bool {
	if len(w.offsets) == 0 {
		return false
	}
	last := l.records[w.offsets[len(w.offsets)-1]]
	return last.Txn != txn && !l.ended(of(last))
}

// lay keeps a record, and is its offset.
func (l *Log) lay(w *writer, r api.Record) int {
	offset := len(l.records)
	r.Value = bytes.Clone(r.Value)
	l.records = append(l.records, r)
	w.offsets = append(w.offsets, offset)
	l.span(of(r), offset)
	return offset
}
