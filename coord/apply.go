package coord

import (
	"strings"

	"seneschal/api"
)

// run does what an operation asks that was not applied ahead, and answers what is marked by it, in order.
func (c *Coord) run(o api.Op) (api.Reply, []api.Mark) {
	switch o.Kind {
	case api.OpInit:
		return c.admit(o.Name)
	case api.OpTick:
		return api.Reply{}, c.tick()
	}
	p := c.producer(o.Producer)
	switch {
	case p == nil:
		return plain(api.ErrNone), nil
	case o.Epoch != p.epoch:
		return plain(api.ErrFenced), nil
	case o.Kind == api.OpAdd:
		return plain(p.add(o.Txn, o.Part, c.now)), nil
	}
	marks, err := p.end(o.Txn, o.Commit)
	return plain(err), marks
}

// admit gives the producer of a name an epoch that is its own: what it did in elder ones is over.
func (c *Coord) admit(name string) (api.Reply, []api.Mark) {
	var marks []api.Mark
	p := c.named(name)
	switch {
	case p == nil && c.producers.Len() >= api.MaxProducers:
		return plain(api.ErrFull), nil
	case p == nil:
		p = &producer{name: strings.Clone(name), number: c.producers.Len()}
		c.producers.Set(p.number, p)
	case p.epoch >= api.MaxEpoch:
		return plain(api.ErrUsed), nil
	default:
		marks = p.renew()
	}
	marks = append(marks, api.Mark{Kind: api.MarkInit, Producer: p.number, Epoch: p.epoch})
	return api.Reply{Producer: p.number, Epoch: p.epoch}, marks
}

// named is the producer of a name; nil, if it is new.
func (c *Coord) named(name string) *producer {
	for _, p := range c.producers.All() {
		if p.name == name {
			return p
		}
	}
	return nil
}

// tick goes on by one tick, and aborts what has been open for too long.
func (c *Coord) tick() []api.Mark {
	c.now++
	var marks []api.Mark
	for _, p := range c.producers.All() {
		if p.open != nil && c.now-p.open.began >= api.Timeout {
			marks = append(marks, p.decide(api.MarkAbort))
		}
	}
	return marks
}
