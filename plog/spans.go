package plog

import "seneschal/api"

const (
	open    = 0  // the Kind of a transaction that is not ended
	nowhere = -1 // the First of one that has no record
)

// key is what tells a transaction from all others.
type key struct{ producer, epoch, txn int }

// of is the key of a record's transaction.
func of(r api.Record) key { return key{r.Producer, r.Epoch, r.Txn} }

// ended tells whether a transaction is ended.
func (l *Log) ended(x key) bool {
	place, ok := l.places[x]
	return ok && l.spans[place].Kind != open
}

// span is a transaction's; one that came just now is open, and has that first offset.
func (l *Log) span(x key, first int) *api.Span {
	place, ok := l.places[x]
	if !ok {
		place = l.begin(x, first)
	}
	return &l.spans[place]
}

// begin lays a transaction behind all others, and is its place.
func (l *Log) begin(x key, first int) int {
	if l.places == nil {
		l.places = map[key]int{}
	}
	place := len(l.spans)
	l.spans = append(l.spans, api.Span{Producer: x.producer, Epoch: x.epoch, Txn: x.txn, First: first})
	l.places[x] = place
	return place
}
