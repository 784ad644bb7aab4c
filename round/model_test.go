package round_test

import (
	"crypto/sha256"
	"slices"
	"testing"

	"seneschal/api"
	"seneschal/cert"
	"seneschal/round"
	"seneschal/rule"
	"seneschal/wire"
)

// model is a round that keeps every message that counted, in order, its own too, and looks all of them through whenever it asks for something.
type model struct {
	p         place
	me, view  int
	wanted    string
	lock      rule.Lock
	counted   []api.Msg
	done      map[[2]int]bool // whether something (1 prepare, 2 commit, 3 propose) was done in a view
	isDecided bool
	value     string
	why       []api.Vote
	out       []api.Msg
}

func newModel(p place, me int) *model {
	return &model{p: p, me: me, lock: rule.Lock{View: -1}, done: map[[2]int]bool{}}
}

// has tells whether a message that counted is so.
func (o *model) has(so func(api.Msg) bool) bool { return slices.ContainsFunc(o.counted, so) }

func (o *model) take(m api.Msg) []api.Msg {
	o.out = nil
	_, err := wire.EncodeMsg(m)
	count := o.p.ring.Nodes()
	if o.isDecided || err != api.OK || m.Slot != o.p.slot || m.From >= count || m.From == o.me || m.Tag != o.p.ring.Seal(m.From, wire.Body(m)) {
		return nil
	}
	alike := func(a api.Msg) bool { return a.Kind == m.Kind && a.View == m.View }
	switch m.Kind {
	case api.MsgPropose:
		if (o.p.slot+m.View)%count == m.From && !o.has(alike) {
			o.counted = append(o.counted, m)
		}
	case api.MsgVote:
		if len(m.Votes) > 0 && m.Votes[0].Kind != api.VoteMark && m.Votes[0].Slot == o.p.slot && m.Votes[0].From == m.From && cert.Good(o.p.ring, m.Votes[0]) {
			o.counted = append(o.counted, m)
		}
	case api.MsgStatus:
		if (o.p.slot+m.View)%count == o.me && !o.has(func(a api.Msg) bool { return alike(a) && a.From == m.From }) {
			o.counted = append(o.counted, m)
		}
	case api.MsgDecide:
		if len(m.Votes) > 0 && cert.Meets(o.p.ring, m.Votes, api.VoteCommit, o.p.slot, m.Votes[0].View, sha256.Sum256(m.Value)) {
			o.isDecided, o.value, o.why = true, string(m.Value), m.Votes
		}
	}
	return o.steps()
}

func (o *model) want(value string) []api.Msg {
	o.out = nil
	if len(value) == 0 || len(value) > 200 {
		return nil
	}
	o.wanted = value
	return o.steps()
}

func (o *model) tick() []api.Msg {
	o.out = nil
	if o.isDecided || o.view == 8 {
		return nil
	}
	o.view++
	m := o.p.status(o.me, o.view, string(o.lock.Value), o.lock.Votes...)
	if lead := o.p.leader(o.view); lead == o.me {
		o.counted = append(o.counted, m)
	} else {
		o.out = append(o.out, to(lead, m))
	}
	return o.steps()
}

func (o *model) steps() []api.Msg {
	for !o.isDecided && (o.decides() || o.prepares() || o.commits() || o.proposes()) {
	}
	return o.out
}

// enough is the votes of that kind and view for the first value that was proposed of those that have Quorum of them.
func (o *model) enough(kind, view int) (string, []api.Vote, bool) {
	for _, m := range o.counted {
		if m.Kind != api.MsgPropose {
			continue
		}
		var l []api.Vote
		for node := range o.p.ring.Nodes() {
			at := slices.IndexFunc(o.counted, func(a api.Msg) bool {
				return a.Kind == api.MsgVote && a.From == node && a.Votes[0].Kind == kind && a.Votes[0].View == view && a.Votes[0].Sum == sha256.Sum256(m.Value)
			})
			if at >= 0 {
				l = append(l, o.counted[at].Votes[0])
			}
		}
		if len(l) >= o.p.quorum() {
			return string(m.Value), l, true
		}
	}
	return "", nil, false
}

func (o *model) decides() bool {
	for view := 0; view <= 8 && !o.isDecided; view++ {
		o.value, o.why, o.isDecided = o.enough(api.VoteCommit, view)
	}
	return o.isDecided
}

func (o *model) prepares() bool {
	at := slices.IndexFunc(o.counted, func(a api.Msg) bool { return a.Kind == api.MsgPropose && a.View == o.view })
	if at < 0 || o.done[[2]int{1, o.view}] {
		return false
	}
	m := o.counted[at]
	if !rule.May(o.p.ring, o.lock, o.p.slot, o.view, m.Value, m.Votes) {
		return false
	}
	o.does(1, o.p.prepare(o.me, o.view, string(m.Value)))
	return true
}

func (o *model) commits() bool {
	value, l, ok := o.enough(api.VotePrepare, o.view)
	if !ok || o.done[[2]int{2, o.view}] {
		return false
	}
	o.lock = rule.Lock{View: o.view, Value: []byte(value), Votes: l}
	o.does(2, o.p.commit(o.me, o.view, value))
	return true
}

func (o *model) proposes() bool {
	if o.p.leader(o.view) != o.me || o.done[[2]int{3, o.view}] {
		return false
	}
	best := rule.Free()
	if o.view > 0 {
		all := slices.DeleteFunc(slices.Clone(o.counted), func(a api.Msg) bool { return a.Kind != api.MsgStatus || a.View != o.view })
		if len(all) < o.p.quorum() {
			return false
		}
		slices.SortFunc(all, func(a, b api.Msg) int { return a.From - b.From })
		for _, m := range all {
			best = rule.Higher(o.p.ring, o.p.slot, o.view, best, rule.Lock{Value: m.Value, Votes: m.Votes})
		}
	}
	switch {
	case best.View >= 0:
		o.does(3, o.p.propose(o.me, o.view, string(best.Value), best.Votes...))
	case o.wanted != "":
		o.does(3, o.p.propose(o.me, o.view, o.wanted))
	default:
		return false
	}
	return true
}

// does sends a message to all, and counts it.
func (o *model) does(what int, m api.Msg) {
	o.done[[2]int{what, o.view}] = true
	o.counted = append(o.counted, m)
	o.out = append(o.out, o.p.toAll(m)...)
}

// agrees: the round tells of itself what the model tells.
func (o *model) agrees(t *testing.T, x *round.Round) {
	t.Helper()
	viewIs(t, x, o.view)
	locked(t, x, o.lock.View, string(o.lock.Value), o.lock.Votes)
	if o.isDecided {
		decided(t, x, o.value, o.why)
	} else {
		undecided(t, x)
	}
}

// act is one call: a tick, a wish, or else a message.
type act struct {
	tick bool
	want string
	msg  api.Msg
}

// nextAct is what might come to a node in that view: mostly messages of nodes that say what they like, about few values and views so that votes meet.
func nextAct(c *chance, p place, view int) act {
	switch c.below(30) {
	case 0:
		return act{tick: true}
	case 1, 2:
		return act{want: []string{"a", "b", "c"}[c.below(3)]}
	}
	near := min(max(view+[]int{0, 0, 0, 0, 1, -1, 2}[c.below(7)], 0), 8)
	value := []string{"a", "a", "b", "c", ""}[c.below(5)]
	from := c.below(p.ring.Nodes())
	switch c.below(16) {
	case 0, 1, 2:
		if !c.oneIn(8) {
			from = p.leader(near)
		}
		return act{msg: p.propose(from, near, value, someProof(c, p, near, value)...)}
	case 3, 4, 5:
		return act{msg: p.status(from, near, value, someProof(c, p, near, value)...)}
	case 6:
		if c.oneIn(6) {
			return act{msg: p.decide(from, value, p.commits(near, value, nodes(0, p.quorum()-c.below(3))...)...)}
		}
		return act{msg: spoilt(c, p, p.prepare(from, near, value))}
	case 7, 8, 9:
		return act{msg: p.commit(from, near, value)}
	}
	return act{msg: p.prepare(from, near, value)}
}

// someProof is votes that prove that a value was prepared below a view, or almost.
func someProof(c *chance, p place, view int, value string) []api.Vote {
	if c.oneIn(3) {
		return nil
	}
	if c.oneIn(5) {
		value += "!"
	}
	return p.prepares(c.below(view+1), value, nodes(0, p.quorum()-c.below(8)/7)...)
}

// spoilt is a message with one thing amiss.
func spoilt(c *chance, p place, m api.Msg) api.Msg {
	switch c.below(6) {
	case 0:
		m.Tag[c.below(32)]++
	case 1:
		m.Slot++
	case 2:
		m.Votes[0].Tag[c.below(32)]++
	case 3:
		m.Votes[0].Slot++
	case 4:
		m.From = (m.From + 1) % p.ring.Nodes()
	case 5:
		m.Kind = []int{0, 1, 6, 7}[c.below(4)]
	}
	if c.oneIn(2) {
		m = p.sealed(m)
	}
	return m
}

// TestRoundsAgainstTheModel: over many rows of calls, at rings of each size (P8.1 to P8.3).
func TestRoundsAgainstTheModel(t *testing.T) {
	c := chance(8)
	decisions, locks, kinds := 0, 0, [7]int{}
	for turn := range 400 {
		p := place{of(1 + turn%10).ring, c.below(64)}
		me := c.below(p.ring.Nodes())
		x, o := p.round(me), newModel(p, me)
		for range 90 {
			a := nextAct(&c, p, x.View())
			var got, want []api.Msg
			switch {
			case a.tick:
				got, want = x.Tick(), o.tick()
			case a.want != "":
				got, want = x.Want([]byte(a.want)), o.want(a.want)
			default:
				got, want = x.Take(a.msg), o.take(a.msg)
			}
			sent(t, got, want...)
			o.agrees(t, x)
			if t.Failed() {
				t.Fatalf("turn %d, %d nodes, node %d: after %+v", turn, p.ring.Nodes(), me, a)
			}
			for _, m := range got {
				kinds[m.Kind]++
			}
		}
		if o.isDecided {
			decisions++
		}
		if o.lock.View > 0 {
			locks++
		}
	}
	if decisions < 80 || locks < 40 || kinds[api.MsgPropose] < 200 || kinds[api.MsgVote] < 1000 || kinds[api.MsgStatus] < 100 {
		t.Error("too little happened:", decisions, locks, kinds)
	}
}
