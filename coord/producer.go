package coord

import "seneschal/api"

// producer is one that may write.
type producer struct {
	name   string
	number int
	epoch  int
	ends   []int // by which marks the transactions of this epoch were decided: first that of number 1
	open   *txn  // nil, if none is open
}

// txn is an open transaction.
type txn struct {
	began int // at that tick
	parts [api.MaxPart + 1]bool
}

// last is the number of the last transaction of this epoch: all below it are decided, itself too, if it is not open.
func (p *producer) last() int {
	if p.open != nil {
		return len(p.ends) + 1
	}
	return len(p.ends)
}

// add lets a transaction have a part; it is opened by its first one.
func (p *producer) add(number, part, now int) api.Errno {
	switch {
	case p.open != nil && number != p.last():
		return api.ErrState
	case p.open != nil:
		p.open.parts[part] = true
		return api.OK
	case p.last() >= api.MaxTxn:
		return api.ErrUsed
	case number != p.last()+1:
		return api.ErrState
	}
	p.open = &txn{began: now}
	p.open.parts[part] = true
	return api.OK
}

// end decides the open transaction; of one that was decided just so it is OK to be asked again.
func (p *producer) end(number int, commit bool) ([]api.Mark, api.Errno) {
	kind := api.MarkAbort
	if commit {
		kind = api.MarkCommit
	}
	switch {
	case p.open != nil && number == p.last():
		return []api.Mark{p.decide(kind)}, api.OK
	case number >= 1 && number <= len(p.ends) && p.ends[number-1] == kind:
		return nil, api.OK
	}
	return nil, api.ErrState
}

// decide ends the open transaction by a mark of that kind.
func (p *producer) decide(kind int) api.Mark {
	m := api.Mark{Kind: kind, Producer: p.number, Epoch: p.epoch, Txn: p.last()}
	p.ends = append(p.ends, kind)
	p.open = nil
	return m
}

// renew begins the next epoch, in which nothing was decided yet; what is open is aborted ahead of it.
func (p *producer) renew() []api.Mark {
	var marks []api.Mark
	if p.open != nil {
		marks = append(marks, p.decide(api.MarkAbort))
	}
	p.epoch++
	p.ends = nil
	return marks
}

// list is the parts, rising.
func (x *txn) list() []int {
	var parts []int
	for part, has := range x.parts {
		if has {
			parts = append(parts, part)
		}
	}
	return parts
}
