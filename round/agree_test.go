package round_test

import (
	"crypto/sha256"
	"slices"
	"testing"

	"seneschal/api"
	"seneschal/cert"
	"seneschal/round"
)

// world is rounds of honest nodes, what is on its way to them, and liars, who see all that is said.
type world struct {
	p       place
	c       chance
	rounds  []*round.Round // nil: a liar
	liars   []int
	honest  []int
	starved int // commits of views below reach one honest node alone
	bag     []api.Msg
	prepare []api.Vote // that were ever said
	commit  []api.Vote
}

// newWorld is one with as many liars as may be, or with fewer.
func newWorld(c chance, p place, liars int) *world {
	w := &world{p: p, c: c, rounds: make([]*round.Round, p.ring.Nodes())}
	for _, n := range w.shuffled(nodes(0, p.ring.Nodes())) {
		if len(w.liars) < liars {
			w.liars = append(w.liars, n)
			continue
		}
		w.honest = append(w.honest, n)
		w.rounds[n] = p.round(n)
	}
	return w
}

func (w *world) shuffled(l []int) []int {
	for i := range l {
		j := i + w.c.below(len(l)-i)
		l[i], l[j] = l[j], l[i]
	}
	return l
}

// puts lays messages on their way; those to liars are only overheard.
func (w *world) puts(l []api.Msg) {
	for _, m := range l {
		for _, v := range m.Votes {
			w.overhears(v)
		}
		lost := m.Kind == api.MsgVote && m.Votes[0].Kind == api.VoteCommit && m.View < w.starved && m.To != w.honest[0]
		if w.rounds[m.To] != nil && !lost {
			w.bag = append(w.bag, m)
		}
	}
}

func (w *world) overhears(v api.Vote) {
	all := &w.prepare
	if v.Kind == api.VoteCommit {
		all = &w.commit
	}
	if cert.Good(w.p.ring, v) && !slices.Contains(*all, v) {
		*all = append(*all, v)
	}
}

// delivers hands over a message, whichever of those on their way; it may stay there, too.
func (w *world) delivers(doubled bool) {
	at := w.c.below(len(w.bag))
	m := w.bag[at]
	if !doubled {
		w.bag = slices.Delete(w.bag, at, at+1)
	}
	w.puts(w.rounds[m.To].Take(m))
}

// said is the votes of that view and value, of all that were said and of what liars add.
func (w *world) said(all []api.Vote, kind, view int, value string) []api.Vote {
	sum := sha256.Sum256([]byte(value))
	l := w.p.votes(kind, view, value, w.liars...)
	for _, v := range all {
		if v.View == view && v.Sum == sum && !slices.Contains(w.liars, v.From) {
			l = append(l, v)
		}
	}
	return l[:min(len(l), api.MaxNodes)]
}

// lie is what a liar might say to a node, to make it decide otherwise than others.
func (w *world) lie() api.Msg {
	from := w.liars[w.c.below(len(w.liars))]
	node := w.honest[w.c.below(len(w.honest))]
	view := min(w.rounds[node].View()+w.c.below(2), api.MaxView)
	value := []string{"a", "b"}[w.c.below(2)]
	elder := w.c.below(view + 1)
	var m api.Msg
	switch w.c.below(8) {
	case 0, 1:
		m = w.p.propose(from, view, value, w.said(w.prepare, api.VotePrepare, elder, value)...)
	case 2, 3:
		m = w.p.prepare(from, view, value)
	case 4, 5:
		m = w.p.commit(from, elder, value)
	case 6:
		m = w.p.status(from, view, value, w.said(w.prepare, api.VotePrepare, elder, value)...)
	case 7:
		m = w.p.decide(from, value, w.said(w.commit, api.VoteCommit, elder, value)...)
	}
	return to(node, m)
}

// agree: whoever decided, decided that, by votes of enough nodes; the answer is what is decided, and by how many.
func (w *world) agree(t *testing.T) (string, int) {
	t.Helper()
	all, value := 0, ""
	for _, n := range w.honest {
		got, why, ok := w.rounds[n].Decided()
		if !ok {
			continue
		}
		if all > 0 && string(got) != value {
			t.Fatalf("%d nodes: %q and %q are decided", w.p.ring.Nodes(), value, got)
		}
		if !cert.Meets(w.p.ring, why, api.VoteCommit, w.p.slot, why[0].View, sha256.Sum256(got)) {
			t.Fatalf("%d nodes: %q is decided by %s", w.p.ring.Nodes(), got, toldVotes(why))
		}
		value = string(got)
		all++
	}
	return value, all
}

// losesPatience: most nodes tick.
func (w *world) losesPatience() {
	for _, n := range w.honest {
		if !w.c.oneIn(6) {
			w.puts(w.rounds[n].Tick())
		}
	}
}

// goesOn is one thing that happens.
func (w *world) goesOn() {
	switch {
	case w.c.oneIn(25 * len(w.honest)):
		w.losesPatience()
	case w.c.oneIn(4) || len(w.bag) == 0:
		w.puts([]api.Msg{w.lie()})
	case w.c.oneIn(30):
		w.bag = slices.Delete(w.bag, 0, 1)
	default:
		w.delivers(w.c.oneIn(6))
	}
}

// lastView is the greatest view in which something was decided; -1, if nothing was.
func (w *world) lastView() int {
	last := -1
	for _, n := range w.honest {
		if _, why, ok := w.rounds[n].Decided(); ok {
			last = max(last, why[0].View)
		}
	}
	return last
}

// TestNoTwoDecideOtherwise: over many orders, losses, doublings, ticks and lies (P8.4).
func TestNoTwoDecideOtherwise(t *testing.T) {
	several, late, byValue := 0, 0, map[string]int{}
	for turn := range 700 {
		count := []int{4, 4, 4, 7, 5, 10, 6}[turn%7]
		w := newWorld(chance(turn*7919), place{of(count).ring, turn % 11}, (count-1)/3)
		w.starved = turn % 3
		for i, n := range w.honest {
			w.puts(w.rounds[n].Want([]byte{"ab"[i%2]}))
		}
		for range 100 * count {
			w.goesOn()
		}
		value, all := w.agree(t)
		byValue[value]++
		if all > 1 {
			several++
		}
		if w.lastView() > 0 {
			late++
		}
	}
	if several < 200 || late < 100 || byValue["a"] < 50 || byValue["b"] < 50 {
		t.Error("too little was decided:", several, late, byValue)
	}
}

// TestWhatOneDecidedTheOthersKeep: one node alone decides in view 0; whatever a liar who leads then proposes, and whatever proof it has, the others are not led astray (P8.4).
func TestWhatOneDecidedTheOthersKeep(t *testing.T) {
	p := of(4)
	all := []*round.Round{p.round(0), nil, p.round(2), p.round(3)} // node 1 lies
	all[0].Want([]byte("x"))
	takes(all[2], p.propose(0, 0, "x"))
	takes(all[3], p.propose(0, 0, "x"))
	for _, n := range []int{0, 2, 3} {
		for _, from := range []int{0, 2, 3} {
			takes(all[n], p.prepare(from, 0, "x"))
		}
		locked(t, all[n], 0, "x", p.prepares(0, "x", 0, 2, 3))
	}
	takes(all[0], p.commit(2, 0, "x"), p.commit(3, 0, "x"))
	decided(t, all[0], "x", p.commits(0, "x", 0, 2, 3))
	for _, n := range []int{2, 3} {
		x := all[n]
		x.Tick()
		for _, why := range [][]api.Vote{p.prepares(0, "y", 1), p.prepares(0, "x", 0, 2, 3), p.commits(0, "y", 1), nil} {
			sent(t, x.Take(p.propose(1, 1, "y", why...)))
		}
		sent(t, takes(x, p.prepare(1, 1, "y"), p.commit(1, 1, "y"), p.decide(1, "y", p.commits(1, "y", 1)...)))
		locked(t, x, 0, "x", p.prepares(0, "x", 0, 2, 3))
		undecided(t, x)
	}
	// In the next view an honest node leads: what was decided is what it proposes, whatever it wants and is told.
	all[2].Want([]byte("z"))
	sent(t, all[2].Tick())
	all[2].Take(p.status(1, 2, "y", p.prepares(1, "y", 1)...))
	status := all[3].Tick()
	got := all[2].Take(status[0])
	sent(t, got, p.toAll(p.propose(2, 2, "x", p.prepares(0, "x", 0, 2, 3)...), p.prepare(2, 2, "x"))...)
	takes(all[3], got[2], got[5], p.prepare(1, 2, "x"), p.commit(2, 2, "x"), p.commit(1, 2, "x"))
	decided(t, all[3], "x", p.commits(2, "x", 1, 2, 3))
}

// TestItGoesOn: where nothing is lost and an honest node leads, what it wants is decided by all, whatever the order (P0.5, P8.2).
func TestItGoesOn(t *testing.T) {
	for turn := range 200 {
		count := 1 + turn%10
		p := place{of(count).ring, turn % 64}
		w := newWorld(chance(turn), p, 0)
		w.puts(w.rounds[p.leader(0)].Want([]byte("x")))
		for len(w.bag) > 0 {
			w.delivers(w.c.oneIn(5))
		}
		for n, x := range w.rounds {
			value, why, ok := x.Decided()
			if !ok || string(value) != "x" || len(why) < p.quorum() || why[0].View != 0 {
				t.Fatalf("%d nodes, slot %d: node %d: %s", count, p.slot, n, toldRound(x))
			}
		}
	}
}

// TestItGoesOnInALaterView: the first leaders are silent, as many as may be; the next one leads, whatever the order (P0.5, P8.2).
func TestItGoesOnInALaterView(t *testing.T) {
	for turn := range 100 {
		count := 4 + turn%7
		p := place{of(count).ring, turn % 64}
		silent := (count - 1) / 3
		w := &world{p: p, c: chance(turn), rounds: make([]*round.Round, count)}
		for view := silent; view < count; view++ {
			n := p.leader(view)
			w.honest, w.rounds[n] = append(w.honest, n), p.round(n)
			w.puts(w.rounds[n].Want([]byte{byte(n)}))
		}
		for range silent {
			for _, n := range w.honest {
				w.puts(w.rounds[n].Tick())
			}
		}
		for len(w.bag) > 0 {
			w.delivers(w.c.oneIn(5))
		}
		for _, n := range w.honest {
			if value, _, ok := w.rounds[n].Decided(); !ok || string(value) != string([]byte{byte(p.leader(silent))}) {
				t.Fatalf("%d nodes, slot %d: node %d: %s", count, p.slot, n, toldRound(w.rounds[n]))
			}
		}
	}
}
