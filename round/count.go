package round

import (
	"iter"

	"seneschal/api"
	"seneschal/cert"
	"seneschal/wire"
)

// believes tells whether a message is of this slot, and another node's own.
func (x *Round) believes(m api.Msg) bool {
	if _, err := wire.EncodeMsg(m); err != api.OK {
		return false
	}
	return m.Slot == x.slot && m.From != x.me && x.ring.Check(m.From, wire.Body(m), m.Tag)
}

// count keeps what counts of a message that is believed.
func (x *Round) count(m api.Msg) {
	switch m.Kind {
	case api.MsgPropose:
		if x.leads(m.From, m.View) {
			x.countProposal(m.View, copied(m.Value, m.Votes))
		}
	case api.MsgVote:
		x.countFirst(m)
	case api.MsgStatus:
		if x.leads(x.me, m.View) {
			x.countStatus(m.View, m.From, copied(m.Value, m.Votes))
		}
	case api.MsgDecide:
		x.countDecision(copied(m.Value, m.Votes))
	}
}

// countProposal keeps the first proposal of a view, and that its value is known.
func (x *Round) countProposal(view int, c claim) {
	if _, there := x.proposals.Get(view); there {
		return
	}
	x.proposals.Set(view, c)
	// One that was known before stands there already, and is found there first.
	x.values = append(x.values, known{cert.ValueSum(c.value), c.value})
}

// countFirst keeps the first vote of a message, if it is a vote of its sender for this slot.
func (x *Round) countFirst(m api.Msg) {
	if len(m.Votes) == 0 {
		return
	}
	v := m.Votes[0]
	forSlot := (v.Kind == api.VotePrepare || v.Kind == api.VoteCommit) && v.Slot == x.slot
	if forSlot && v.From == m.From {
		x.countVote(v)
	}
}

// countVote keeps a Good vote. That of a round whose own node the ring does not have is not Good.
func (x *Round) countVote(v api.Vote) {
	if !cert.Good(x.ring, v) {
		return
	}
	at := voteKey(v.Kind, v.View, v.From)
	bySum, there := x.votes.Get(at)
	if !there {
		bySum = map[api.Hash]api.Vote{}
		x.votes.Set(at, bySum)
	}
	// A second vote of one kind, view, sum and node that is Good is the same one.
	bySum[v.Sum] = v
}

// countStatus keeps the first status of a view and node.
func (x *Round) countStatus(view, node int, c claim) {
	at := statusKey(view, node)
	if _, there := x.statuses.Get(at); !there {
		x.statuses.Set(at, c)
	}
}

// countDecision keeps what others decided, if their votes are enough for it.
func (x *Round) countDecision(c claim) {
	if len(c.votes) == 0 {
		return
	}
	if cert.Meets(x.ring, c.votes, api.VoteCommit, x.slot, c.votes[0].View, cert.ValueSum(c.value)) {
		x.decided = &c
	}
}

// votesOn goes along the votes of that kind, view and sum, by rising nodes.
func (x *Round) votesOn(kind, view int, sum api.Hash) iter.Seq[api.Vote] {
	first := voteKey(kind, view, 0)
	return func(yield func(api.Vote) bool) {
		for at, bySum := range x.votes.From(first) {
			if at >= first+api.MaxNodes {
				return
			}
			if v, there := bySum[sum]; there && !yield(v) {
				return
			}
		}
	}
}

// statusesOf goes along the statuses of a view, by rising nodes.
func (x *Round) statusesOf(view int) iter.Seq[claim] {
	first := statusKey(view, 0)
	return func(yield func(claim) bool) {
		for at, c := range x.statuses.From(first) {
			if at >= first+api.MaxNodes || !yield(c) {
				return
			}
		}
	}
}

// statusKey lays the nodes of one view side by side.
func statusKey(view, node int) int { return view*api.MaxNodes + node }

// voteKey lays the nodes of one kind and view side by side.
func voteKey(kind, view, node int) int { return statusKey(kind*(api.MaxView+1)+view, node) }
