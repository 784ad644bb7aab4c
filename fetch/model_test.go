package fetch_test

import (
	"math"
	"slices"
	"testing"

	"seneschal/api"
	"seneschal/fetch"
)

// goesOn is that something happens to a log by chance: what may not be is refused, and told nowhere.
func (s *story) goesOn(c *chance) {
	p := c.below(4)
	txn := 1 + c.below(4)
	switch c.below(8) {
	case 0:
		if c.oneIn(3) {
			s.Learn(p, s.epochs[p]+1)
			s.epochs[p]++
			s.seqs[p] = 0
		}
	case 1:
		s.End(p, max(s.epochs[p]-c.below(2), 0), txn, !c.oneIn(3))
	case 2:
		if list := s.Spans(); len(list) > 0 {
			x := list[c.below(len(list))]
			s.End(x.Producer, x.Epoch, x.Txn, !c.oneIn(3))
		}
	default:
		s.laysIfMay(p, txn)
	}
}

// laysIfMay lays a record, if its transaction may be written to.
func (s *story) laysIfMay(producer, txn int) {
	r := api.Record{Producer: producer, Epoch: s.epochs[producer], Txn: txn, Seq: s.seqs[producer], Value: []byte(row(len(s.laid), len(s.laid)+1))}
	if _, err := s.Append(r); err == api.OK {
		s.laid = append(s.laid, r)
		s.seqs[producer]++
	}
}

// endsAll ends all that is open.
func (s *story) endsAll(c *chance) {
	for _, x := range s.Spans() {
		if x.Kind == isOpen {
			s.ends(x.Producer, x.Epoch, x.Txn, c.oneIn(2))
		}
	}
}

// someStories are many logs: some told by hand, one that is full, and some by chance, with all ended and not.
func someStories(t *testing.T) []*story {
	list := []*story{newStory(t, ""), newStory(t, "a1"), newStory(t, "a1 a1-"), newStory(t, "a1 a1+"), mixed(t), broken(t), fullStory(t)}
	for seed := range 120 {
		c := chance(seed * 77)
		s := newStory(t, "")
		for range 10 + c.below(40) {
			s.goesOn(&c)
		}
		if c.oneIn(2) {
			s.endsAll(&c)
		}
		list = append(list, s)
	}
	return list
}

// model is what a log's spans say of its records, worked out one by one, the plain way.
type model struct {
	laid   []api.Record
	spans  []api.Span
	stable int
}

func (s *story) model() *model {
	m := &model{laid: s.laid, spans: s.Spans(), stable: len(s.laid)}
	for i := len(m.laid) - 1; i >= 0; i-- {
		if m.kind(i) == isOpen {
			m.stable = i
		}
	}
	return m
}

// kind is what became of a record's transaction.
func (m *model) kind(offset int) int {
	r := m.laid[offset]
	for _, x := range m.spans {
		if x.Producer == r.Producer && x.Epoch == r.Epoch && x.Txn == r.Txn {
			return x.Kind
		}
	}
	return -1
}

// read is what Any or Committed tells.
func (m *model) read(committed bool, from, most int) ([]api.Record, int) {
	from = max(from, 0)
	end := len(m.laid)
	if committed {
		end = m.stable
	}
	var list []api.Record
	for from < end && len(list) < most {
		if !committed || m.kind(from) == commits {
			list = append(list, m.laid[from])
		}
		from++
	}
	return list, from
}

// aborted is what Aborted tells.
func (m *model) aborted(from, to int) []api.Span {
	var list []api.Span
	for i, r := range m.laid {
		first := !slices.ContainsFunc(m.laid[:i], func(x api.Record) bool {
			return x.Producer == r.Producer && x.Epoch == r.Epoch && x.Txn == r.Txn
		})
		if first && m.kind(i) == aborts && i >= from && i < to {
			list = append(list, span(r.Producer, r.Epoch, r.Txn, i, aborts))
		}
	}
	// A log lays a span where its first record is, so the order of First is the one in which they came.
	return list
}

// P12.1, P12.2: over many logs, offsets and numbers, what is told is what the model tells, which looks at each record alone; and the log is as it was.
func TestAgainstTheModel(t *testing.T) {
	tally := map[string]int{}
	for _, s := range someStories(t) {
		m := s.model()
		if m.stable != s.Stable() {
			t.Fatal(toldLog(s.Log))
		}
		was := toldLog(s.Log)
		for _, from := range numbers(s.Len()) {
			for _, most := range numbers(s.Len()) {
				s.holds(m, from, most, tally)
			}
		}
		if got := toldLog(s.Log); got != was {
			t.Fatalf("%s\nwas\n%s", got, was)
		}
	}
	for _, what := range []string{"any", "committed", "fewer", "left out ahead", "left out behind", "aborted", "stopped"} {
		if tally[what] < 1000 {
			t.Errorf("too little happened: %s %d times", what, tally[what])
		}
	}
}

// numbers are those around 0, and around so many; of great ones only some.
func numbers(n int) []int {
	below, above := far()
	list := slices.Concat(below, above)
	for i := range n + 3 {
		if i < 12 || i%7 == 0 || i > n-3 {
			list = append(list, i)
		}
	}
	return list
}

// holds: what is told of one offset and number is what the model tells.
func (s *story) holds(m *model, from, most int, tally map[string]int) {
	s.t.Helper()
	for committed, read := range map[bool]reading{false: fetch.Any, true: fetch.Committed} {
		list, to := read(s.Log, from, most)
		want, wantTo := m.read(committed, from, most)
		if told(list) != told(want) || to != wantTo {
			s.t.Fatalf("%v, from %d, most %d: %d %s, not %d %s, of %s", committed, from, most, to, told(list), wantTo, told(want), toldLog(s.Log))
		}
		count(tally, committed, len(list), max(from, 0), most, to)
	}
	got, want := fetch.Aborted(s.Log, from, most), m.aborted(from, most)
	if !slices.Equal(got, want) {
		s.t.Fatalf("Aborted(%d, %d): %v, not %v, of %s", from, most, got, want, toldLog(s.Log))
	}
	tally["aborted"] += len(got)
}

// count is what happened.
func count(tally map[string]int, committed bool, n, from, most, to int) {
	if !committed {
		tally["any"] += n
		return
	}
	tally["committed"] += n
	switch {
	case n > 0 && n < most && most < math.MaxInt32:
		tally["fewer"]++
	case n > 0 && n == most:
		tally["stopped"]++
	}
	if n > 0 && to-from > n {
		tally["left out ahead"]++
	}
	if n == 0 && to > from {
		tally["left out behind"]++
	}
}

// P12.2: over many logs, what Each tells is what the model tells.
func TestEachAgainstTheModel(t *testing.T) {
	for _, s := range someStories(t) {
		m := s.model()
		for _, committed := range []bool{false, true} {
			want, _ := m.read(committed, 0, math.MaxInt)
			s.eachIs(committed, offsets(want))
			for n := 1; n <= len(want) && n < 9; n++ {
				if got := firstOf(fetch.Each(s.Log, committed), n); told(got) != told(want[:n]) {
					t.Fatalf("%v, the first %d: %s", committed, n, told(got))
				}
			}
		}
	}
}

// P0.4: what is read as committed only grows.
func TestWhatIsReadAsCommittedOnlyGrows(t *testing.T) {
	grew := 0
	for seed := range 400 {
		c := chance(seed)
		s := newStory(t, "")
		was := ""
		for range 60 {
			s.goesOn(&c)
			list, _ := fetch.Committed(s.Log, 0, math.MaxInt)
			got := offsets(list)
			if len(got) < len(was) || got[:len(was)] != was {
				t.Fatalf("%q was %q", got, was)
			}
			if got != was {
				grew++
			}
			was = got
		}
	}
	if grew < 200 {
		t.Error("too little happened:", grew)
	}
}
