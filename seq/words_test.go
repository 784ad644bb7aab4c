package seq_test

import (
	"crypto/sha256"
	"fmt"
	"slices"
	"strings"
	"testing"

	"seneschal/api"
	"seneschal/cert"
	"seneschal/seal"
	"seneschal/seq"
	"seneschal/wire"
)

var (
	namedSeed = api.Hash(sha256.Sum256([]byte("seed")))
	otherSeed = api.Hash(sha256.Sum256([]byte("another seed")))
)

// place is where messages are made: the keys of all nodes, and a slot.
type place struct {
	ring *seal.Ring
	slot int
}

// of is slot 0 of so many nodes. Of four, node v leads in view v there.
func of(nodes int) place { return place{seal.New(nodes, namedSeed), 0} }

// at is another slot.
func (p place) at(slot int) place { return place{p.ring, slot} }

func (p place) seq(me int) *seq.Seq { return seq.New(p.ring, me) }

func (p place) leader(view int) int { return (p.slot + view) % p.ring.Nodes() }

func (p place) quorum() int { return p.ring.Nodes() - (p.ring.Nodes()-1)/3 }

// sealed is a message with its sender's seal.
func (p place) sealed(m api.Msg) api.Msg {
	m.Tag = p.ring.Seal(m.From, wire.Body(m))
	return m
}

// votes are those of these nodes, in that order.
func (p place) votes(kind, view int, value string, nodes ...int) []api.Vote {
	var l []api.Vote
	for _, n := range nodes {
		l = append(l, cert.Cast(p.ring, kind, p.slot, view, sha256.Sum256([]byte(value)), n))
	}
	return l
}

func (p place) prepares(view int, value string, nodes ...int) []api.Vote {
	return p.votes(api.VotePrepare, view, value, nodes...)
}

func (p place) commits(view int, value string, nodes ...int) []api.Vote {
	return p.votes(api.VoteCommit, view, value, nodes...)
}

func (p place) prepare(from, view int, value string) api.Msg {
	return p.sealed(api.Msg{Kind: api.MsgVote, From: from, Slot: p.slot, View: view, Votes: p.prepares(view, value, from)})
}

func (p place) commit(from, view int, value string) api.Msg {
	return p.sealed(api.Msg{Kind: api.MsgVote, From: from, Slot: p.slot, View: view, Votes: p.commits(view, value, from)})
}

// propose is what the leader of a view says.
func (p place) propose(view int, value string, why ...api.Vote) api.Msg {
	return p.sealed(api.Msg{Kind: api.MsgPropose, From: p.leader(view), Slot: p.slot, View: view, Value: []byte(value), Votes: why})
}

func (p place) status(from, view int, value string, why ...api.Vote) api.Msg {
	return p.sealed(api.Msg{Kind: api.MsgStatus, From: from, Slot: p.slot, View: view, Value: []byte(value), Votes: why})
}

func (p place) decide(from int, value string, why ...api.Vote) api.Msg {
	return p.sealed(api.Msg{Kind: api.MsgDecide, From: from, Slot: p.slot, Value: []byte(value), Votes: why})
}

// decision is a message by which another node, that of this number, tells what is decided, by votes of the first Quorum nodes.
func (p place) decision(from int, value string) api.Msg {
	return p.decide(from, value, p.commits(0, value, nodes(0, p.quorum())...)...)
}

// request is a value that somebody asks for; nobody needs to seal it.
func request(value string) api.Msg { return api.Msg{Kind: api.MsgRequest, Value: []byte(value)} }

// noise is a message that may be stored, and never counts.
func noise(slot int) api.Msg { return api.Msg{Kind: api.MsgVote, Slot: slot} }

// to is a message to that node; To is not sealed.
func to(node int, m api.Msg) api.Msg {
	m.To = node
	return m
}

// toAll are these messages, each to every node but its sender, rising.
func (p place) toAll(l ...api.Msg) []api.Msg {
	var all []api.Msg
	for _, m := range l {
		for n := range p.ring.Nodes() {
			if n != m.From {
				all = append(all, to(n, m))
			}
		}
	}
	return all
}

// opens is what a leader sends who proposes a value for which nothing needs to be proved.
func (p place) opens(view int, value string) []api.Msg {
	return p.toAll(p.propose(view, value), p.prepare(p.leader(view), view, value))
}

// nodes are the numbers from one to below another.
func nodes(from, below int) []int {
	var l []int
	for n := from; n < below; n++ {
		l = append(l, n)
	}
	return l
}

// takes hands a Seq messages, and is what it sends, in order.
func takes(s *seq.Seq, l ...api.Msg) []api.Msg {
	var sent []api.Msg
	for _, m := range l {
		sent = append(sent, s.Take(m)...)
	}
	return sent
}

// submits hands a Seq values that are all OK, and is what it sends, in order.
func submits(t *testing.T, s *seq.Seq, values ...string) []api.Msg {
	t.Helper()
	var sent []api.Msg
	for _, value := range values {
		l, err := s.Submit([]byte(value))
		if err != api.OK {
			t.Errorf("%q: %v", value, err)
		}
		sent = append(sent, l...)
	}
	return sent
}

// refused: a value is refused by that error, and nothing is sent or has changed.
func refused(t *testing.T, s *seq.Seq, value []byte, want api.Errno) {
	t.Helper()
	was := toldSeq(s)
	l, err := s.Submit(value)
	if err != want || len(l) != 0 {
		t.Errorf("%d bytes %.20q: %v, not %v, and %s", len(value), value, err, want, told(l))
	}
	if got := toldSeq(s); got != was {
		t.Errorf("%s\nwas\n%s", got, was)
	}
}

// known: a value is OK, and nothing is sent or has changed.
func known(t *testing.T, s *seq.Seq, values ...string) {
	t.Helper()
	for _, value := range values {
		refused(t, s, []byte(value), api.OK)
	}
}

// follows hands a Seq what was decided in slots from one on.
func follows(s *seq.Seq, p place, from int, values ...string) []api.Msg {
	var sent []api.Msg
	for i, value := range values {
		sent = append(sent, s.Take(p.at(p.slot+i).decision(from, value))...)
	}
	return sent
}

// some are so many values that are unlike each other, and all others of the tests.
func some(count int) []string {
	var l []string
	for i := range count {
		l = append(l, fmt.Sprintf("value %d", i))
	}
	return l
}

// texts is a list of rows of bytes as texts.
func texts(l [][]byte) []string {
	var all []string
	for _, b := range l {
		all = append(all, string(b))
	}
	return all
}

// told is messages in words, but for their seals.
func told(l []api.Msg) string {
	var s strings.Builder
	for _, m := range l {
		fmt.Fprintf(&s, "[kind %d, %d>%d, slot %d, view %d, %q %s] ", m.Kind, m.From, m.To, m.Slot, m.View, m.Value, toldVotes(m.Votes))
	}
	return s.String()
}

func toldVotes(l []api.Vote) string {
	var s strings.Builder
	for _, v := range l {
		fmt.Fprintf(&s, "%d/%d/%d/%x/%d ", v.Kind, v.Slot, v.View, v.Sum[:2], v.From)
	}
	return s.String()
}

// toldSeq is all that a Seq tells of itself.
func toldSeq(s *seq.Seq) string {
	var b strings.Builder
	fmt.Fprintf(&b, "view %d, pending %q, log", s.View(), s.Pending())
	for slot, value := range s.Log() {
		fmt.Fprintf(&b, " %q by %v", value, s.Proof(slot))
	}
	return b.String()
}

// sent: just these messages were sent, in that order.
func sent(t *testing.T, got []api.Msg, want ...api.Msg) {
	t.Helper()
	if !slices.EqualFunc(got, want, wire.SameMsg) {
		t.Errorf("sent\n%s\nnot\n%s", told(got), told(want))
	}
}

// logIs: these values are decided, in that order.
func logIs(t *testing.T, s *seq.Seq, want ...string) {
	t.Helper()
	if got := texts(s.Log()); !slices.Equal(got, want) {
		t.Errorf("the log is %q, not %q", got, want)
	}
}

// pendingIs: these values are to be decided, in that order.
func pendingIs(t *testing.T, s *seq.Seq, want ...string) {
	t.Helper()
	if got := texts(s.Pending()); !slices.Equal(got, want) {
		t.Errorf("%q are pending, not %q", got, want)
	}
}

// proofIs: the slot was decided by these votes, in that order.
func proofIs(t *testing.T, s *seq.Seq, slot int, want []api.Vote) {
	t.Helper()
	if got := s.Proof(slot); !slices.Equal(got, want) {
		t.Errorf("slot %d: decided by %s, not by %s", slot, toldVotes(got), toldVotes(want))
	}
}

// viewIs: the current slot is in that view.
func viewIs(t *testing.T, s *seq.Seq, want int) {
	t.Helper()
	if got := s.View(); got != want {
		t.Errorf("view %d, not %d", got, want)
	}
}

// chance is a row of numbers that is the same each time.
type chance uint32

// below is the next number of it, 0 or more and below top.
func (c *chance) below(top int) int {
	*c = *c*1664525 + 1013904223
	return int(*c>>16) % top
}

// oneIn is true once in so many times.
func (c *chance) oneIn(times int) bool { return c.below(times) == 0 }

func TestTheNumbersOfTheTestsAreThoseOfPackageApi(t *testing.T) {
	got := []int{api.MsgRequest, api.MsgPropose, api.MsgVote, api.MsgStatus, api.MsgDecide, api.MsgMark, api.MaxNodes, api.MaxValue, api.MaxSlots, api.MaxView, api.Window, api.MaxStored, api.MaxPending}
	if want := []int{1, 2, 3, 4, 5, 6, 10, 200, 64, 8, 4, 128, 16}; !slices.Equal(got, want) {
		t.Error(got, want)
	}
}
