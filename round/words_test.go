package round_test

import (
	"bytes"
	"crypto/sha256"
	"fmt"
	"slices"
	"strings"
	"testing"

	"seneschal/api"
	"seneschal/cert"
	"seneschal/round"
	"seneschal/seal"
	"seneschal/wire"
)

var (
	namedSeed = api.Hash(sha256.Sum256([]byte("seed")))
	otherSeed = api.Hash(sha256.Sum256([]byte("another seed")))
)

// place is where messages are made: the keys of all nodes, and a slot.
type place struct {
	ring *seal.Ring
	slot int
}

// of is a place of so many nodes. Of four, node v leads in view v.
func of(nodes int) place { return place{seal.New(nodes, namedSeed), 4} }

func (p place) round(me int) *round.Round { return round.New(p.ring, me, p.slot) }

func (p place) leader(view int) int { return (p.slot + view) % p.ring.Nodes() }

func (p place) quorum() int { return p.ring.Nodes() - (p.ring.Nodes()-1)/3 }

// others are all nodes but one, rising.
func (p place) others(me int) []int {
	var all []int
	for n := range p.ring.Nodes() {
		if n != me {
			all = append(all, n)
		}
	}
	return all
}

// sealed is a message with its sender's seal.
func (p place) sealed(m api.Msg) api.Msg {
	m.Tag = p.ring.Seal(m.From, wire.Body(m))
	return m
}

// votes are those of these nodes, in that order.
func (p place) votes(kind, view int, value string, nodes ...int) []api.Vote {
	var l []api.Vote
	for _, n := range nodes {
		l = append(l, cert.Cast(p.ring, kind, p.slot, view, sha256.Sum256([]byte(value)), n))
	}
	return l
}

func (p place) prepares(view int, value string, nodes ...int) []api.Vote {
	return p.votes(api.VotePrepare, view, value, nodes...)
}

func (p place) commits(view int, value string, nodes ...int) []api.Vote {
	return p.votes(api.VoteCommit, view, value, nodes...)
}

// says is a message with these votes, as a node sends its vote.
func (p place) says(from, view int, l ...api.Vote) api.Msg {
	return p.sealed(api.Msg{Kind: api.MsgVote, From: from, Slot: p.slot, View: view, Votes: l})
}

func (p place) prepare(from, view int, value string) api.Msg {
	return p.says(from, view, p.prepares(view, value, from)...)
}

func (p place) commit(from, view int, value string) api.Msg {
	return p.says(from, view, p.commits(view, value, from)...)
}

func (p place) propose(from, view int, value string, why ...api.Vote) api.Msg {
	return p.sealed(api.Msg{Kind: api.MsgPropose, From: from, Slot: p.slot, View: view, Value: []byte(value), Votes: why})
}

func (p place) status(from, view int, value string, why ...api.Vote) api.Msg {
	return p.sealed(api.Msg{Kind: api.MsgStatus, From: from, Slot: p.slot, View: view, Value: []byte(value), Votes: why})
}

func (p place) decide(from int, value string, why ...api.Vote) api.Msg {
	return p.sealed(api.Msg{Kind: api.MsgDecide, From: from, Slot: p.slot, Value: []byte(value), Votes: why})
}

// to is a message to that node; To is not sealed.
func to(node int, m api.Msg) api.Msg {
	m.To = node
	return m
}

// toAll are these messages, each to every node but its sender, rising.
func (p place) toAll(l ...api.Msg) []api.Msg {
	var all []api.Msg
	for _, m := range l {
		for _, n := range p.others(m.From) {
			all = append(all, to(n, m))
		}
	}
	return all
}

// nodes are the numbers from one to below another.
func nodes(from, below int) []int {
	var l []int
	for n := from; n < below; n++ {
		l = append(l, n)
	}
	return l
}

// takes hands a round messages, and is what it sends, in order.
func takes(x *round.Round, l ...api.Msg) []api.Msg {
	var sent []api.Msg
	for _, m := range l {
		sent = append(sent, x.Take(m)...)
	}
	return sent
}

// ticked hands a round so many ticks, and is what it sends, in order.
func ticked(x *round.Round, times int) []api.Msg {
	var sent []api.Msg
	for range times {
		sent = append(sent, x.Tick()...)
	}
	return sent
}

// told is messages in words, but for their seals.
func told(l []api.Msg) string {
	var s strings.Builder
	for _, m := range l {
		fmt.Fprintf(&s, "[kind %d, %d>%d, slot %d, view %d, %q %s] ", m.Kind, m.From, m.To, m.Slot, m.View, m.Value, toldVotes(m.Votes))
	}
	return s.String()
}

func toldVotes(l []api.Vote) string {
	var s strings.Builder
	for _, v := range l {
		fmt.Fprintf(&s, "%d/%d/%d/%x/%d ", v.Kind, v.Slot, v.View, v.Sum[:2], v.From)
	}
	return s.String()
}

// toldRound is all that a round tells of itself.
func toldRound(x *round.Round) string {
	k := x.Lock()
	value, votes, ok := x.Decided()
	return fmt.Sprintf("view %d, locked %d %q %v, decided %v %q %v", x.View(), k.View, k.Value, k.Votes, ok, value, votes)
}

// sent: just these messages were sent, in that order.
func sent(t *testing.T, got []api.Msg, want ...api.Msg) {
	t.Helper()
	if !slices.EqualFunc(got, want, wire.SameMsg) {
		t.Errorf("sent\n%s\nnot\n%s", told(got), told(want))
	}
}

// undecided: nothing is decided.
func undecided(t *testing.T, x *round.Round) {
	t.Helper()
	if value, votes, ok := x.Decided(); ok || len(value) != 0 || len(votes) != 0 {
		t.Errorf("decided: %v %q %s", ok, value, toldVotes(votes))
	}
}

// decided: that is decided, with these votes in that order.
func decided(t *testing.T, x *round.Round, value string, votes []api.Vote) {
	t.Helper()
	got, why, ok := x.Decided()
	if !ok || string(got) != value || !slices.Equal(why, votes) {
		t.Errorf("decided: %v %q %s, not %q %s", ok, got, toldVotes(why), value, toldVotes(votes))
	}
}

// locked: the lock is that, with these votes in that order.
func locked(t *testing.T, x *round.Round, view int, value string, votes []api.Vote) {
	t.Helper()
	k := x.Lock()
	if k.View != view || !bytes.Equal(k.Value, []byte(value)) || !slices.Equal(k.Votes, votes) {
		t.Errorf("locked at %d on %q by %s, not at %d on %q by %s", k.View, k.Value, toldVotes(k.Votes), view, value, toldVotes(votes))
	}
}

// free: there is no lock.
func free(t *testing.T, x *round.Round) {
	t.Helper()
	locked(t, x, -1, "", nil)
}

// viewIs: the round is in that view.
func viewIs(t *testing.T, x *round.Round, view int) {
	t.Helper()
	if x.View() != view {
		t.Errorf("view %d, not %d", x.View(), view)
	}
}

// chance is a row of numbers that is the same each time.
type chance uint32

// below is the next number of it, 0 or more and below top.
func (c *chance) below(top int) int {
	*c = *c*1664525 + 1013904223
	return int(*c>>16) % top
}

// oneIn is true once in so many times.
func (c *chance) oneIn(times int) bool { return c.below(times) == 0 }

func TestTheNumbersOfTheTestsAreThoseOfPackageApi(t *testing.T) {
	got := []int{api.VotePrepare, api.VoteCommit, api.VoteMark, api.MsgRequest, api.MsgPropose, api.MsgVote, api.MsgStatus, api.MsgDecide, api.MsgMark, api.MaxNodes, api.MaxValue, api.MaxSlots, api.MaxView}
	if want := []int{1, 2, 3, 1, 2, 3, 4, 5, 6, 10, 200, 64, 8}; !slices.Equal(got, want) {
		t.Error(got, want)
	}
}
