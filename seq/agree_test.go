package seq_test

import (
	"crypto/sha256"
	"slices"
	"testing"

	"seneschal/api"
	"seneschal/cert"
	"seneschal/seq"
)

// world is Seqs of honest nodes, what is on its way to them, and liars, who see all that is said.
type world struct {
	p      place // slot 0
	c      chance
	seqs   []*seq.Seq // nil: a liar
	liars  []int
	honest []int
	bag    []api.Msg
	heard  []api.Vote // all Good votes that were ever said, each once
	agreed []string   // the longest log so far
	late   int        // how many slots were decided in a view above 0
}

// newWorld is one with so many liars.
func newWorld(c chance, p place, liars int) *world {
	w := &world{p: p, c: c, seqs: make([]*seq.Seq, p.ring.Nodes())}
	for _, n := range w.shuffled(nodes(0, p.ring.Nodes())) {
		if len(w.liars) < liars {
			w.liars = append(w.liars, n)
			continue
		}
		w.honest = append(w.honest, n)
		w.seqs[n] = p.seq(n)
	}
	return w
}

func (w *world) shuffled(l []int) []int {
	for i := range l {
		j := i + w.c.below(len(l)-i)
		l[i], l[j] = l[j], l[i]
	}
	return l
}

// puts lays messages on their way; those to liars are only overheard.
func (w *world) puts(l []api.Msg) {
	for _, m := range l {
		for _, v := range m.Votes {
			if !slices.Contains(w.heard, v) && cert.Good(w.p.ring, v) {
				w.heard = append(w.heard, v)
			}
		}
		if w.seqs[m.To] != nil {
			w.bag = append(w.bag, m)
		}
	}
}

// someone is an honest node.
func (w *world) someone() int { return w.honest[w.c.below(len(w.honest))] }

// delivers hands over a message, whichever of those on their way; it may stay there, too.
func (w *world) delivers(t *testing.T, doubled bool) {
	t.Helper()
	at := w.c.below(len(w.bag))
	m := w.bag[at]
	if !doubled {
		w.bag = slices.Delete(w.bag, at, at+1)
	}
	w.puts(w.seqs[m.To].Take(m))
	w.agrees(t, m.To)
}

// submits asks a node for a value.
func (w *world) submits(t *testing.T, node int, value string) {
	t.Helper()
	l, _ := w.seqs[node].Submit([]byte(value))
	w.puts(l)
	w.agrees(t, node)
}

// ticks: a node loses patience.
func (w *world) ticks(t *testing.T, node int) {
	t.Helper()
	w.puts(w.seqs[node].Tick())
	w.agrees(t, node)
}

// said is the votes of that kind, view and value, of all that were said and of what liars add.
func (w *world) said(p place, kind, view int, value string) []api.Vote {
	sum := sha256.Sum256([]byte(value))
	l := p.votes(kind, view, value, w.liars...)
	for _, v := range w.heard {
		if v.Kind == kind && v.Slot == p.slot && v.View == view && v.Sum == sum && !slices.Contains(w.liars, v.From) {
			l = append(l, v)
		}
	}
	return l[:min(len(l), api.MaxNodes)]
}

// lie is what a liar might say to a node, to make its log another one than others'.
func (w *world) lie() api.Msg {
	from, node := w.liars[w.c.below(len(w.liars))], w.someone()
	s := w.seqs[node]
	p := w.p.at(min(max(len(s.Log())+[]int{0, 0, 0, 0, 1, 1, 2, 4, -1}[w.c.below(9)], 0), api.MaxSlots-1))
	view := min(s.View()+w.c.below(2), api.MaxView)
	value := string([]byte{'a' + byte(p.slot+w.c.below(2))%6})
	elder := w.c.below(view + 1)
	var m api.Msg
	switch w.c.below(8) {
	case 0, 1:
		m = p.propose(view, value, w.said(p, api.VotePrepare, elder, value)...)
		m.From = from
		m = p.sealed(m)
	case 2, 3:
		m = p.prepare(from, view, value)
	case 4, 5:
		m = p.commit(from, elder, value)
	case 6:
		m = p.status(from, view, value, w.said(p, api.VotePrepare, elder, value)...)
	case 7:
		m = p.decide(from, value, w.said(p, api.VoteCommit, elder, value)...)
	}
	return to(node, m)
}

// agrees: what a node has decided is what the others have, and by votes of enough nodes; its log has only grown.
func (w *world) agrees(t *testing.T, node int) {
	t.Helper()
	log := texts(w.seqs[node].Log())
	both := min(len(log), len(w.agreed))
	if !slices.Equal(log[:both], w.agreed[:both]) {
		t.Fatalf("%d nodes: the log of node %d is %q, and another's is %q", w.p.ring.Nodes(), node, log, w.agreed)
	}
	for slot := both; slot < len(log); slot++ {
		why := w.seqs[node].Proof(slot)
		if !cert.Meets(w.p.ring, why, api.VoteCommit, slot, why[0].View, sha256.Sum256([]byte(log[slot]))) {
			t.Fatalf("%d nodes, slot %d: %q is decided by %s", w.p.ring.Nodes(), slot, log[slot], toldVotes(why))
		}
		if why[0].View > 0 {
			w.late++
		}
		w.agreed = append(w.agreed, log[slot])
	}
}

// losesPatience: most nodes tick.
func (w *world) losesPatience(t *testing.T) {
	t.Helper()
	for _, n := range w.honest {
		if !w.c.oneIn(6) {
			w.ticks(t, n)
		}
	}
}

// goesOn is one thing that happens.
func (w *world) goesOn(t *testing.T) {
	t.Helper()
	switch {
	case w.c.oneIn(30 * len(w.honest)):
		w.losesPatience(t)
	case w.c.oneIn(12 * len(w.honest)):
		w.submits(t, w.someone(), string([]byte{'a' + byte(w.c.below(6)), byte(w.c.below(9))}))
	case len(w.liars) > 0 && w.c.oneIn(4):
		w.puts([]api.Msg{w.lie()})
	case len(w.bag) == 0:
		w.ticks(t, w.someone())
	case w.c.oneIn(40):
		w.bag = slices.Delete(w.bag, 0, 1)
	default:
		w.delivers(t, w.c.oneIn(8))
	}
}

// TestLogsArePrefixesOfOneAnother: over many orders, losses, doublings, ticks and lies (P9.4, P0.1).
func TestLogsArePrefixesOfOneAnother(t *testing.T) {
	slots, late, apart := 0, 0, 0
	for turn := range 240 {
		count := []int{4, 4, 4, 7, 5, 4, 10}[turn%7]
		w := newWorld(chance(turn*7919), of(count), (count-1)/3)
		for _, n := range w.honest {
			for k := range 6 {
				w.submits(t, n, string([]byte{'a' + byte((n*turn+k)%6)}))
			}
		}
		for range 250 * count {
			w.goesOn(t)
		}
		shortest := len(w.agreed)
		for _, n := range w.honest {
			w.agrees(t, n)
			shortest = min(shortest, len(w.seqs[n].Log()))
		}
		slots += len(w.agreed)
		late += w.late
		if shortest < len(w.agreed) {
			apart++
		}
	}
	if slots < 700 || late < 300 || apart < 60 {
		t.Error("too little was decided:", slots, late, apart)
	}
}

// TestLogsWithoutLiars: losses and ticks alone (P9.4, P0.1).
func TestLogsWithoutLiars(t *testing.T) {
	slots := 0
	for turn := range 30 {
		w := newWorld(chance(turn), of(2+turn%6), 0)
		for _, n := range w.honest {
			w.submits(t, n, string([]byte{'a' + byte(n)}))
		}
		for range 1200 {
			w.goesOn(t)
		}
		slots += len(w.agreed)
	}
	if slots < 150 {
		t.Error("too little was decided:", slots)
	}
}

// TestItGoesOn: where nothing is lost, what is asked is in all logs, whatever the order of messages (P0.5, P9.2).
func TestItGoesOn(t *testing.T) {
	for turn := range 60 {
		count := 1 + turn%10
		w := newWorld(chance(turn), of(count), 0)
		values := []string{"a", "b", "c", "d", "e"} // as many as slots are within the Window, so that none is too far ahead of anybody
		for n := range count {
			for k := range values {
				w.submits(t, n, values[(n+k)%len(values)])
			}
		}
		for len(w.bag) > 0 {
			w.delivers(t, w.c.oneIn(9))
		}
		for n, s := range w.seqs {
			log := texts(s.Log())
			slices.Sort(log)
			if !slices.Equal(log, values) || len(s.Pending()) != 0 {
				t.Fatalf("%d nodes: node %d: %s", count, n, toldSeq(s))
			}
		}
	}
}

// settles delivers all that is on its way, but for what comes from or goes to a node that is cut off (below 0: none is).
func (w *world) settles(t *testing.T, off int) {
	t.Helper()
	for {
		w.bag = slices.DeleteFunc(w.bag, func(m api.Msg) bool { return m.To == off || m.From == off })
		if len(w.bag) == 0 {
			return
		}
		w.delivers(t, false)
	}
}

// decidesWithout: a value is decided by all nodes but one, who is cut off.
func (w *world) decidesWithout(t *testing.T, off int, value string) {
	t.Helper()
	for n := range w.seqs {
		if n != off {
			w.submits(t, n, value)
		}
	}
	w.settles(t, off)
	if slices.Contains(w.agreed, value) {
		return
	}
	for n := range w.seqs { // it is the one that is cut off who leads
		if n != off {
			w.ticks(t, n)
		}
	}
	w.settles(t, off)
}

// TestALateNodeCatchesUp: others are beyond the Window; it loses patience, is told slot by slot, and is one of them again (P9.1, P9.2).
func TestALateNodeCatchesUp(t *testing.T) {
	for late := range 4 {
		w := newWorld(chance(late), of(4), 0)
		values := some(15)
		for _, value := range values[:14] {
			w.decidesWithout(t, late, value)
		}
		for n := range 4 {
			if n != late {
				logIs(t, w.seqs[n], values[:14]...)
			}
		}
		logIs(t, w.seqs[late])
		// Where it leads itself in view 1 it needs a second tick: nobody else has told it anything.
		for ticks := 0; ticks < 28 && len(w.seqs[late].Log()) < 14; ticks++ {
			w.ticks(t, late)
			w.settles(t, -1)
		}
		logIs(t, w.seqs[late], values[:14]...)
		for n := range 4 {
			w.submits(t, n, values[14])
		}
		w.settles(t, -1)
		for n := range 4 {
			logIs(t, w.seqs[n], values...)
		}
	}
}
