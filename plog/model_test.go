package plog_test

import (
	"fmt"
	"slices"
	"testing"

	"seneschal/api"
	"seneschal/plog"
)

// model is a Log that keeps nothing but what was called and was OK, and looks there for all else.
type model struct {
	learned [][2]int // producers and epochs
	came    []event
}

// event is a record that was laid, or an ending.
type event struct {
	who    [3]int // producer, epoch, txn
	ending int    // its Kind; 0: a record
	seq    int
	value  string
}

// epoch is the producer's; -1, if it is not known.
func (o *model) epoch(p int) int {
	n := -1
	for _, x := range o.learned {
		if x[0] == p {
			n = max(n, x[1])
		}
	}
	return n
}

// laid is all records.
func (o *model) laid() []event {
	var l []event
	for _, x := range o.came {
		if x.ending == 0 {
			l = append(l, x)
		}
	}
	return l
}

// kind is how a transaction was ended; 0, if it was not.
func (o *model) kind(who [3]int) int {
	for _, x := range o.came {
		if x.who == who && x.ending != 0 {
			return x.ending
		}
	}
	return 0
}

func (o *model) spans() []api.Span {
	var l []api.Span
	offset := 0
	for _, x := range o.came {
		s := span(x.who[0], x.who[1], x.who[2], -1, 0)
		if x.ending == 0 {
			s.First = offset
			offset++
		}
		i := slices.IndexFunc(l, func(y api.Span) bool {
			return y.Producer == s.Producer && y.Epoch == s.Epoch && y.Txn == s.Txn
		})
		if i < 0 {
			i = len(l)
			l = append(l, s)
		}
		l[i].Kind = max(l[i].Kind, x.ending)
	}
	return l
}

func in(n, least, most int) bool { return least <= n && n <= most }

func (o *model) learn(p, epoch int) api.Errno {
	if !in(p, 0, 7) || !in(epoch, 0, 100) {
		return 1
	}
	o.learned = append(o.learned, [2]int{p, epoch})
	return 0
}

func (o *model) end(p, epoch, txn int, commit bool) api.Errno {
	who := [3]int{p, epoch, txn}
	switch k := o.kind(who); {
	case !in(p, 0, 7) || !in(epoch, 0, 100) || !in(txn, 1, 100):
		return 1
	case k == kindOf(!commit):
		return 6
	}
	o.came = append(o.came, event{who: who, ending: kindOf(commit)})
	return 0
}

func (o *model) lay(r api.Record) (int, api.Errno) {
	switch known := o.epoch(r.Producer); {
	case !in(r.Producer, 0, 7) || !in(r.Epoch, 0, 100) || !in(r.Txn, 1, 100) || !in(r.Seq, 0, 1<<20) || len(r.Value) > 200:
		return 0, 1
	case known < 0:
		return 0, 4
	case r.Epoch < known:
		return 0, 5
	case r.Epoch > known:
		return 0, 6
	}
	next := event{who: [3]int{r.Producer, r.Epoch, r.Txn}, seq: r.Seq, value: string(r.Value)}
	laid := o.laid()
	last, another := -1, false
	for offset, x := range laid {
		if x.who[0] != r.Producer || x.who[1] != r.Epoch {
			continue
		}
		switch {
		case x == next:
			return offset, 0
		case x.seq == r.Seq:
			return 0, 1
		}
		last = max(last, x.seq)
		another = another || x.who != next.who && o.kind(x.who) == 0
	}
	switch {
	case r.Seq != last+1:
		return 0, 8
	case o.kind(next.who) != 0 || another:
		return 0, 6
	case len(laid) == 128:
		return 0, 3
	}
	o.came = append(o.came, next)
	return len(laid), 0
}

// told is what a Log tells, in the same words as toldLog.
func (o *model) told() string {
	var l []string
	for i, x := range o.laid() {
		l = append(l, toldRecord(i, rec(x.who[0], x.who[1], x.who[2], x.seq, x.value)))
	}
	spans, stable := o.spans(), len(l)
	for _, x := range spans {
		if x.Kind == 0 {
			stable = min(stable, x.First)
		}
	}
	s := fmt.Sprintf("%d records %q, stable %d, spans %v", len(l), l, stable, spans)
	for p := -1; p <= 8; p++ {
		s += fmt.Sprintf(", %d: %d %v", p, max(o.epoch(p), 0), o.epoch(p) >= 0)
	}
	return s
}

// call is one thing that may be asked of a Log.
type call struct {
	kind   int // learn, lay or end
	r      api.Record
	commit bool
}

const (
	learn = iota
	lay
	end
)

func (x call) String() string {
	return fmt.Sprintf("%d %s %v", x.kind, toldRecord(0, x.r), x.commit)
}

func (x call) ask(l *plog.Log) (int, api.Errno) {
	switch x.kind {
	case learn:
		return 0, l.Learn(x.r.Producer, x.r.Epoch)
	case lay:
		return l.Append(x.r)
	}
	return 0, l.End(x.r.Producer, x.r.Epoch, x.r.Txn, x.commit)
}

func (x call) askModel(o *model) (int, api.Errno) {
	switch x.kind {
	case learn:
		return 0, o.learn(x.r.Producer, x.r.Epoch)
	case lay:
		return o.lay(x.r)
	}
	return 0, o.end(x.r.Producer, x.r.Epoch, x.r.Txn, x.commit)
}

// next is what might be asked: mostly the record that comes next, or the ending of what is open; of so many producers.
func next(c *chance, o *model, producers, ends int) call {
	p := c.below(producers)
	x := call{r: rec(p, max(o.epoch(p), 0), 1, 0, []string{"", "a", "b", "ab"}[c.below(4)]), commit: c.oneIn(2)}
	for _, y := range o.laid() { // the transaction that was written to last, and the Seq behind it
		if y.who[0] == p && y.who[1] == x.r.Epoch {
			x.r.Txn, x.r.Seq = y.who[2], y.seq+1
		}
	}
	if o.kind([3]int{p, x.r.Epoch, x.r.Txn}) != 0 && !c.oneIn(5) {
		x.r.Txn = min(x.r.Txn+1+c.below(3), 100)
	}
	switch n := c.below(100); {
	case n < 5 || o.epoch(p) < 0 && n < 60:
		x.kind = learn
		x.r.Epoch += c.below(4) - 1
	case n < 5+ends:
		x.kind = end
	default:
		x.kind = lay
	}
	vary(c, o, &x)
	return x
}

// vary changes a call now and then: to a record that is there, to numbers nearby, to what may not be.
func vary(c *chance, o *model, x *call) {
	if l := o.laid(); len(l) > 0 && c.oneIn(6) {
		y := l[c.below(len(l))]
		x.r = rec(y.who[0], y.who[1], y.who[2], y.seq, y.value)
	}
	field := []*int{&x.r.Producer, &x.r.Epoch, &x.r.Txn, &x.r.Seq}[c.below(4)]
	switch c.below(24) {
	case 0, 1, 2:
		*field += c.below(5) - 2
	case 3:
		*field = []int{-1, 8, 101, 0, 100, 1 << 20, 1<<20 + 1}[c.below(7)]
	case 4:
		x.r.Value = make([]byte, 199+c.below(4))
	case 5:
		x.r.Value = []byte("ab")[:c.below(3)]
	}
}

// TestLogsAgainstTheModel: over many rows of calls (P11.1 to P11.3).
func TestLogsAgainstTheModel(t *testing.T) {
	c := chance(11)
	did := [3][10]int{}
	again, elders := 0, 0
	for turn := range 80 {
		l, o := plog.New(), &model{}
		was := toldLog(l)
		for range 300 {
			x := next(&c, o, 1+turn%8, 2+turn%40)
			count := len(o.laid())
			want, wantErr := x.askModel(o)
			got, err := x.ask(l)
			if got != want || err != wantErr {
				t.Fatalf("turn %d: %v: %d %v, not %d %v", turn, x, got, err, want, wantErr)
			}
			now := toldLog(l)
			if told := o.told(); now != told {
				t.Fatalf("turn %d: after %v\n%s\nnot\n%s", turn, x, now, told)
			}
			did[x.kind][err]++
			switch {
			case err != api.OK && now != was:
				t.Fatalf("turn %d: %v erred, and\n%s\nwas\n%s", turn, x, now, was)
			case x.kind == lay && err == api.OK && len(o.laid()) == count:
				again++
			}
			if x.kind == end && err == api.OK && x.r.Epoch < o.epoch(x.r.Producer) {
				elders++
			}
			was = now
		}
	}
	learns, lays, ends := did[learn], did[lay], did[end]
	if learns[0] < 1000 || learns[1] < 50 || lays[0] < 5000 || lays[1] < 700 || lays[3] < 300 || lays[4] < 300 || lays[5] < 700 || lays[6] < 700 || lays[8] < 150 || ends[0] < 3000 || ends[1] < 150 || ends[6] < 100 || again < 500 || elders < 100 {
		t.Error("too little happened:", did, again, elders)
	}
}

// TestWhatIsEndedStays: it takes no more records, and is never ended the other way (P11.3).
func TestWhatIsEndedStays(t *testing.T) {
	c := chance(12)
	count := 0
	for turn := range 60 {
		l, o := plog.New(), &model{}
		kinds, sizes := map[[3]int]int{}, map[[3]int]int{}
		for range 250 {
			x := next(&c, o, 1+turn%8, 10+turn%30)
			x.askModel(o)
			x.ask(l)
			size := map[[3]int]int{}
			for _, r := range l.Records(0) {
				size[[3]int{r.Producer, r.Epoch, r.Txn}]++
			}
			for _, s := range l.Spans() {
				who := [3]int{s.Producer, s.Epoch, s.Txn}
				if s.Kind == 0 {
					continue
				}
				if kind, ok := kinds[who]; ok && (kind != s.Kind || sizes[who] != size[who]) {
					t.Fatalf("turn %d: after %v: %v had %d records", turn, x, s, sizes[who])
				}
				kinds[who], sizes[who] = s.Kind, size[who]
				count++
			}
		}
	}
	if count < 10000 {
		t.Error("too little happened:", count)
	}
}

// TestRecordsOnlyGrow: none is changed or taken away, and Stable never falls (P11.2, P11.3).
func TestRecordsOnlyGrow(t *testing.T) {
	c := chance(13)
	for turn := range 60 {
		l, o := plog.New(), &model{}
		var was []string
		stable := 0
		for range 250 {
			x := next(&c, o, 1+turn%8, 10+turn%30)
			x.askModel(o)
			x.ask(l)
			got := rows(l, 0)
			if len(got) < len(was) || !slices.Equal(got[:len(was)], was) || l.Stable() < stable || l.Stable() > l.Len() {
				t.Fatalf("turn %d: after %v: %v, %d; was %v, %d", turn, x, got, l.Stable(), was, stable)
			}
			was, stable = got, l.Stable()
		}
	}
}
