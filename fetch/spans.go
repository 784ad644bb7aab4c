package fetch

import (
	"seneschal/api"
	"seneschal/plog"
)

// key is what tells a transaction from all others.
type key struct{ producer, epoch, txn int }

// of is the key of a record's transaction.
func of(r api.Record) key { return key{r.Producer, r.Epoch, r.Txn} }

// keys is those of spans.
func keys(spans []api.Span) map[key]struct{} {
	set := make(map[key]struct{}, len(spans))
	for _, s := range spans {
		set[key{s.Producer, s.Epoch, s.Txn}] = struct{}{}
	}
	return set
}

// ended is the transactions that were ended so and have a record, the first of them at from or behind it, and below to.
func ended(l *plog.Log, kind, from, to int) []api.Span {
	var list []api.Span
	for _, s := range l.Spans() {
		if s.Kind == kind && s.First >= max(from, 0) && s.First < to {
			list = append(list, s)
		}
	}
	return list
}
