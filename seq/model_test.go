package seq_test

import (
	"slices"
	"testing"

	"seneschal/api"
	"seneschal/round"
	"seneschal/seal"
	"seneschal/seq"
	"seneschal/wire"
)

// model is a Seq that takes the document at its words: each slot has its Round for good, and as soon as one is decided all follows from that, one in another.
type model struct {
	p       place // the current slot
	me      int
	rounds  []*round.Round
	pending []string
	stored  []api.Msg
	out     []api.Msg
}

func newModel(p place, me int) *model {
	return &model{p: p, me: me, rounds: []*round.Round{round.New(p.ring, me, 0)}}
}

// here is the current slot's Round; nil, if there is none.
func (o *model) here() *round.Round {
	if o.p.slot == api.MaxSlots {
		return nil
	}
	return o.rounds[o.p.slot]
}

// log is what the Rounds below decided.
func (o *model) log() []string {
	var l []string
	for _, x := range o.rounds[:o.p.slot] {
		value, _, _ := x.Decided()
		l = append(l, string(value))
	}
	return l
}

func (o *model) submit(value string) ([]api.Msg, api.Errno) {
	o.out = nil
	if value == "" || len(value) > 200 {
		return nil, api.ErrArg
	}
	if slices.Contains(append(o.log(), o.pending...), value) {
		return nil, api.OK
	}
	if len(o.pending) == 16 || o.p.slot == 64 {
		return nil, api.ErrFull
	}
	o.pending = append(o.pending, value)
	if len(o.pending) == 1 {
		o.sends(o.here().Want([]byte(value)))
	}
	return o.out, api.OK
}

func (o *model) take(m api.Msg) []api.Msg {
	o.out = nil
	switch {
	case m.Kind == api.MsgRequest:
		l, _ := o.submit(string(m.Value))
		return l
	case m.Slot == o.p.slot:
		o.sends(o.here().Take(m))
	case m.Slot > o.p.slot:
		if m.Slot-o.p.slot <= 4 && len(o.stored) < 128 {
			o.stored = append(o.stored, copyMsgs([]api.Msg{m})[0])
		}
	case m.Slot < 0 || m.From < 0 || m.From >= o.p.ring.Nodes() || m.From == o.me || m.Tag != o.p.ring.Seal(m.From, wire.Body(m)):
	case m.Kind == api.MsgPropose || m.Kind == api.MsgStatus:
		value, votes, _ := o.rounds[m.Slot].Decided()
		o.out = []api.Msg{to(m.From, o.p.at(m.Slot).decide(o.me, string(value), votes...))}
	}
	return o.out
}

func (o *model) tick() []api.Msg {
	o.out = nil
	o.sends(o.here().Tick())
	return o.out
}

// sends adds what the current slot's Round sent, and goes on if it has decided.
func (o *model) sends(l []api.Msg) {
	o.out = append(o.out, l...)
	value, _, ok := o.here().Decided()
	if !ok {
		return
	}
	if at := slices.Index(o.pending, string(value)); at >= 0 {
		o.pending = slices.Delete(o.pending, at, at+1)
	}
	o.p.slot++
	o.rounds = append(o.rounds, round.New(o.p.ring, o.me, o.p.slot))
	slot := o.p.slot
	if len(o.pending) > 0 {
		o.sends(o.here().Want([]byte(o.pending[0])))
	}
	for slot == o.p.slot {
		at := slices.IndexFunc(o.stored, func(m api.Msg) bool { return m.Slot == slot })
		if at < 0 {
			break
		}
		m := o.stored[at]
		o.stored = slices.Delete(o.stored, at, at+1)
		o.sends(o.here().Take(m))
	}
	o.stored = slices.DeleteFunc(o.stored, func(m api.Msg) bool { return m.Slot < o.p.slot })
}

// act is one call: a tick, a submission, or else a message, so many times.
type act struct {
	tick  bool
	value *string
	msg   api.Msg
	times int
}

// nextAct is what might come to a node in that slot: mostly messages about few values, so that votes meet, of the slot and of those around it.
func nextAct(c *chance, p place, view int) act {
	q := p.at(p.slot + []int{0, 0, 0, 0, 0, 0, 0, 1, 1, 1, 2, 2, 3, 4, 5, -1, -1, -2, -9}[c.below(19)])
	value := string([]byte{'a' + byte(q.slot&7), '0' + byte(c.below(4)/3)})
	switch c.below(40) {
	case 0:
		return act{tick: true}
	case 1, 2, 3, 4:
		return act{value: &value}
	case 5:
		wrong := []string{"", longest + "v", longest}[c.below(3)]
		return act{value: &wrong}
	case 6:
		return act{msg: noise(q.slot), times: 1 + c.below(2)*c.below(70)}
	case 7:
		return act{msg: request(value), times: 1}
	}
	return act{msg: someMsg(c, q, view, value), times: 1}
}

// someMsg is a message about a value, of another node that says what it likes.
func someMsg(c *chance, q place, view int, value string) api.Msg {
	near := min(max(view+[]int{0, 0, 0, 0, 1, -1}[c.below(6)], 0), 8)
	from := c.below(q.ring.Nodes())
	var m api.Msg
	switch c.below(12) {
	case 0, 1:
		m = q.propose(near, value)
	case 2:
		m = q.status(from, near, value, q.prepares(near/2, value, nodes(0, q.quorum())...)...)
	case 3, 4, 5:
		m = q.prepare(from, near, value)
	case 6, 7, 8:
		m = q.commit(from, near, value)
	case 9, 10:
		m = q.decide(from, value, q.commits(near, value, nodes(0, q.quorum()-c.below(3))...)...)
	case 11:
		m = q.status(from, near, value)
		m.Tag[c.below(32)]++
	}
	return m
}

// TestSeqsAgainstTheModel: over many rows of calls, at rings of each size, in the first slots and in the last ones (P9.1 to P9.3).
func TestSeqsAgainstTheModel(t *testing.T) {
	c := chance(9)
	slots, ends, crowds, answers, refusals := 0, 0, 0, [7]int{}, [4]int{}
	for turn := range 240 {
		p := place{ring: seal.New(1+turn%10, namedSeed)}
		me := c.below(p.ring.Nodes())
		s, o := p.seq(me), newModel(p, me)
		if turn%3 == 0 && p.ring.Nodes() > 1 {
			for slot, value := range some(58 + c.below(6)) {
				m := p.at(slot).decision((me+1)%p.ring.Nodes(), value)
				sent(t, s.Take(m), o.take(m)...)
			}
		}
		from := o.p.slot
		for range 200 {
			a := nextAct(&c, o.p, s.View())
			for _, m := range runsBoth(t, s, o, a, &refusals) {
				answers[m.Kind]++
			}
			crowds += len(o.stored) / api.MaxStored
			o.agrees(t, s)
			if t.Failed() {
				t.Fatalf("turn %d, %d nodes, node %d: after %+v", turn, p.ring.Nodes(), me, a)
			}
		}
		slots += o.p.slot - from
		ends += o.p.slot / 64
	}
	if slots < 1000 || ends < 20 || crowds < 100 || answers[api.MsgDecide] < 100 || answers[api.MsgPropose] < 300 || answers[api.MsgVote] < 3000 || refusals[api.ErrArg] < 100 || refusals[api.ErrFull] < 20 {
		t.Error("too little happened:", slots, ends, crowds, answers, refusals)
	}
}

// runsBoth makes a call of a Seq and of the model, and holds what they answer against each other.
func runsBoth(t *testing.T, s *seq.Seq, o *model, a act, refusals *[4]int) []api.Msg {
	t.Helper()
	var got, want []api.Msg
	switch {
	case a.tick:
		got, want = s.Tick(), o.tick()
	case a.value != nil:
		l, err := s.Submit([]byte(*a.value))
		k, wantErr := o.submit(*a.value)
		if err != wantErr {
			t.Errorf("%q: %v, not %v", *a.value, err, wantErr)
		}
		got, want = l, k
		refusals[wantErr]++
	}
	for range a.times {
		got, want = append(got, s.Take(a.msg)...), append(want, o.take(a.msg)...)
	}
	sent(t, got, want...)
	return got
}

// agrees: the Seq tells of itself what the model tells.
func (o *model) agrees(t *testing.T, s *seq.Seq) {
	t.Helper()
	logIs(t, s, o.log()...)
	pendingIs(t, s, o.pending...)
	viewIs(t, s, o.here().View())
	for slot, x := range o.rounds {
		_, votes, _ := x.Decided()
		proofIs(t, s, slot, votes)
	}
}
