package round

import (
	"slices"

	"seneschal/api"
	"seneschal/cert"
	"seneschal/rule"
	"seneschal/wire"
)

// steps takes one step after the other, until none applies or all is decided, and answers what is sent.
func (x *Round) steps() []api.Msg {
	var sent []api.Msg
	for x.decided == nil {
		more, taken := x.step()
		if !taken {
			break
		}
		sent = append(sent, more...)
	}
	return sent
}

// step takes the first step that applies; false, if none does.
func (x *Round) step() ([]api.Msg, bool) {
	for _, apply := range []func() ([]api.Msg, bool){x.decide, x.prepare, x.commit, x.propose} {
		if sent, taken := apply(); taken {
			return sent, true
		}
	}
	return nil, false
}

// decide decides what enough nodes committed, in the least view.
func (x *Round) decide() ([]api.Msg, bool) {
	for view := range api.MaxView + 1 {
		if c, ok := x.enough(api.VoteCommit, view); ok {
			x.decided = &c
			return nil, true
		}
	}
	return nil, false
}

// prepare votes for the proposal of my view, if my lock lets me.
func (x *Round) prepare() ([]api.Msg, bool) {
	p, there := x.proposals.Get(x.view)
	if !there || x.prepared == x.view || !rule.May(x.ring, x.lock, x.slot, x.view, p.value, p.votes) {
		return nil, false
	}
	x.prepared = x.view
	return x.vote(api.VotePrepare, p.value), true
}

// commit locks me on what enough nodes prepared in my view, and votes for it.
func (x *Round) commit() ([]api.Msg, bool) {
	if x.committed == x.view {
		return nil, false
	}
	c, ok := x.enough(api.VotePrepare, x.view)
	if !ok {
		return nil, false
	}
	x.committed = x.view
	x.lock = rule.Lock{View: x.view, Value: c.value, Votes: c.votes}
	return x.vote(api.VoteCommit, c.value), true
}

// propose says to all what is to be voted for, where I lead.
func (x *Round) propose() ([]api.Msg, bool) {
	if x.proposed == x.view || !x.leads(x.me, x.view) {
		return nil, false
	}
	c, ok := x.choice()
	if !ok {
		return nil, false
	}
	x.proposed = x.view
	x.countProposal(x.view, c)
	return x.toAll(api.MsgPropose, c), true
}

// choice is what I may propose: what the others are locked on goes ahead of what I want.
func (x *Round) choice() (claim, bool) {
	if x.view > 0 {
		k, ok := x.highest()
		if !ok {
			return claim{}, false
		}
		if k.View != noView {
			return claim{k.Value, k.Votes}, true
		}
	}
	return claim{value: x.wanted}, len(x.wanted) > 0
}

// highest is the highest lock of all statuses of my view, Free if none has one; false, if they are too few. My own is among them since the tick that led here.
func (x *Round) highest() (rule.Lock, bool) {
	all := slices.Collect(x.statusesOf(x.view))
	if !x.isQuorum(len(all)) {
		return rule.Lock{}, false
	}
	best := rule.Free()
	for _, c := range all {
		best = rule.Higher(x.ring, x.slot, x.view, best, rule.Lock{Value: c.value, Votes: c.votes})
	}
	return best, true
}

// enough is the value that was known first of those for which enough nodes voted so, and their votes.
func (x *Round) enough(kind, view int) (claim, bool) {
	for _, k := range x.values {
		if votes := slices.Collect(x.votesOn(kind, view, k.sum)); x.isQuorum(len(votes)) {
			return claim{k.value, votes}, true
		}
	}
	return claim{}, false
}

// vote says a vote of mine to all; it counts for me, too.
func (x *Round) vote(kind int, value []byte) []api.Msg {
	v := cert.Cast(x.ring, kind, x.slot, x.view, cert.ValueSum(value), x.me)
	x.countVote(v)
	return x.toAll(api.MsgVote, claim{votes: []api.Vote{v}})
}

// report says my lock to who leads my view; if that is me, it is not sent.
func (x *Round) report() []api.Msg {
	lock := claim{x.lock.Value, x.lock.Votes}
	if x.leads(x.me, x.view) {
		x.countStatus(x.view, x.me, lock)
		return nil
	}
	return []api.Msg{x.message(api.MsgStatus, rule.Leader(x.slot, x.view, x.ring.Nodes()), lock)}
}

// toAll is a message to each node but me.
func (x *Round) toAll(kind int, c claim) []api.Msg {
	var all []api.Msg
	for node := range x.ring.Nodes() {
		if node != x.me {
			all = append(all, x.message(kind, node, c))
		}
	}
	return all
}

// message is one of my view, sealed, of its own memory.
func (x *Round) message(kind, to int, c claim) api.Msg {
	own := copied(c.value, c.votes)
	m := api.Msg{Kind: kind, From: x.me, To: to, Slot: x.slot, View: x.view, Value: own.value, Votes: own.votes}
	m.Tag = x.ring.Seal(x.me, wire.Body(m))
	return m
}
