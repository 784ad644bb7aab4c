package coord_test

import (
	"slices"
	"testing"

	"seneschal/api"
	"seneschal/coord"
)

// model is a Coord that keeps nothing but what happened - who came, what was marked, which parts were added at which tick - and looks there for all else.
type model struct {
	applied []answered
	names   []string
	marks   []api.Mark
	adds    []added
	now     int
}

// answered is an operation's numbers, and what it was answered.
type answered struct {
	client, seq int
	reply       api.Reply
}

// added is a part of a transaction, and when it came.
type added struct {
	txn  api.Mark // of Kind 0
	part int
	tick int
}

func (o *model) epoch(p int) int {
	n := -1
	for _, m := range o.marks {
		if m.Kind == api.MarkInit && m.Producer == p {
			n++
		}
	}
	return n
}

// last is the greatest number of the producer's epoch that ever had a part.
func (o *model) last(p int) int {
	n := 0
	for _, a := range o.adds {
		if a.txn.Producer == p && a.txn.Epoch == o.epoch(p) {
			n = max(n, a.txn.Txn)
		}
	}
	return n
}

// decided is the kind of a transaction's marks, and how many there are.
func (o *model) decided(x api.Mark) (kind, count int) {
	for _, m := range o.marks {
		if m.Kind != api.MarkInit && m.Producer == x.Producer && m.Epoch == x.Epoch && m.Txn == x.Txn {
			kind = m.Kind
			count++
		}
	}
	return kind, count
}

// open is the producer's open transaction, its parts, and when it began.
func (o *model) open(p int) (x api.Mark, parts []int, tick int, ok bool) {
	x = api.Mark{Producer: p, Epoch: o.epoch(p), Txn: o.last(p)}
	if _, n := o.decided(x); n > 0 {
		return x, nil, 0, false
	}
	for _, a := range o.adds {
		if a.txn != x {
			continue
		}
		if !ok {
			tick, ok = a.tick, true
		}
		parts = append(parts, a.part)
	}
	slices.Sort(parts)
	return x, slices.Compact(parts), tick, ok
}

// may tells whether an operation may be; those of the model's rows err by their numbers alone, or have a field that their kind does not name.
func may(o api.Op) bool {
	bare := api.Op{Kind: o.Kind, Client: o.Client, Seq: o.Seq}
	switch o.Kind {
	case 1:
		bare.Name = o.Name
	case 2:
		bare.Producer, bare.Epoch, bare.Txn, bare.Part = o.Producer, o.Epoch, o.Txn, o.Part
	case 3:
		bare.Producer, bare.Epoch, bare.Txn, bare.Commit = o.Producer, o.Epoch, o.Txn, o.Commit
	case 4:
	default:
		return false
	}
	for _, pair := range [][2]int{{o.Client, 15}, {o.Seq, 1 << 20}, {o.Producer, 7}, {o.Epoch, 100}, {o.Txn, 100}, {o.Part, 3}} {
		if pair[0] < 0 || pair[0] > pair[1] {
			return false
		}
	}
	return o == bare && (o.Kind != 1 || len(o.Name) >= 1 && len(o.Name) <= 8)
}

func (o *model) apply(op api.Op) (api.Reply, []api.Mark) {
	if !may(op) {
		return api.Reply{Err: 6}, nil
	}
	for _, a := range o.applied {
		if a.client == op.Client && a.seq == op.Seq {
			return a.reply, nil
		}
	}
	from := len(o.marks)
	var r api.Reply
	switch op.Kind {
	case 1:
		r = o.init(op.Name)
	case 2:
		r.Err = o.add(op)
	case 3:
		r.Err = o.end(op)
	case 4:
		o.now++
		for p := range o.names {
			if x, _, tick, ok := o.open(p); ok && tick <= o.now-5 {
				o.mark(api.MarkAbort, x)
			}
		}
	}
	o.applied = append(o.applied, answered{op.Client, op.Seq, r})
	return r, o.marks[from:]
}

func (o *model) mark(kind int, x api.Mark) {
	x.Kind = kind
	o.marks = append(o.marks, x)
}

func (o *model) init(name string) api.Reply {
	p := slices.Index(o.names, name)
	switch {
	case p < 0 && len(o.names) == 8:
		return api.Reply{Err: 3}
	case p < 0:
		p = len(o.names)
		o.names = append(o.names, name)
	case o.epoch(p) == 100:
		return api.Reply{Err: 7}
	}
	if x, _, _, ok := o.open(p); ok {
		o.mark(api.MarkAbort, x)
	}
	o.mark(api.MarkInit, api.Mark{Producer: p, Epoch: o.epoch(p) + 1})
	return api.Reply{Producer: p, Epoch: o.epoch(p)}
}

// fenced is the error of what is of no producer, or not of its epoch.
func (o *model) fenced(op api.Op) api.Errno {
	switch {
	case op.Producer >= len(o.names):
		return 4
	case op.Epoch != o.epoch(op.Producer):
		return 5
	}
	return 0
}

func (o *model) add(op api.Op) api.Errno {
	if err := o.fenced(op); err != 0 {
		return err
	}
	x, _, _, ok := o.open(op.Producer)
	if !ok || x.Txn != op.Txn {
		switch last := o.last(op.Producer); {
		case ok:
			return 6
		case last == 100:
			return 7
		case op.Txn != last+1:
			return 6
		}
	}
	o.adds = append(o.adds, added{api.Mark{Producer: op.Producer, Epoch: op.Epoch, Txn: op.Txn}, op.Part, o.now})
	return 0
}

func (o *model) end(op api.Op) api.Errno {
	if err := o.fenced(op); err != 0 {
		return err
	}
	x, _, _, ok := o.open(op.Producer)
	want := ended(op.Producer, op.Epoch, op.Txn, op.Commit)
	if ok && x.Txn == op.Txn {
		o.mark(want.Kind, x)
		return 0
	}
	if kind, _ := o.decided(want); kind == want.Kind {
		return 0
	}
	return 6
}

// nextOp is what might be asked: mostly what may be, of few names, about the transaction that is open or the next one.
func nextOp(c *chance, o *model, ticks int) api.Op {
	p := c.below(max(1, len(o.names)))
	if c.oneIn(20) {
		p = c.below(9)
	}
	txn := o.last(p)
	if _, _, _, ok := o.open(p); !ok && !c.oneIn(3) {
		txn++
	}
	if c.oneIn(6) {
		txn = max(txn+c.below(4)-2, 0)
	}
	epoch := max(o.epoch(p), 0)
	if c.oneIn(12) {
		epoch = max(epoch+c.below(3)-1, 0)
	}
	var op api.Op
	switch n := c.below(100); {
	case n < ticks:
		op = opTick()
	case n < ticks+6 || len(o.names) == 0 && n < 90:
		op = opInit(names(10)[c.below(10)])
	case n < 65:
		op = opAdd(p, epoch, txn, c.below(4))
	default:
		op = opEnd(p, epoch, txn, c.oneIn(2))
	}
	op.Client, op.Seq = c.below(16), c.below(5000)
	if c.oneIn(30) {
		spoiled(c, &op)
	}
	return op
}

// spoiled makes an operation one that may not be, most often.
func spoiled(c *chance, op *api.Op) {
	field := []*int{&op.Kind, &op.Client, &op.Seq, &op.Producer, &op.Epoch, &op.Txn, &op.Part}[c.below(7)]
	*field = []int{-1, 5, 8, 16, 101, 1 << 20, 1<<20 + 1}[c.below(7)]
}

// elders are operations by which few numbers are left: of epochs, or of transactions.
func elders(turn int) []api.Op {
	var l []api.Op
	for i := range 98 + turn%4 {
		switch turn % 5 {
		case 0:
			l = append(l, opInit("h"), opInit("aa"))
		case 1:
			l = append(l, opInit("h"), opAdd(0, min(i, 100), 1, i%4))
		case 2:
			l = append(l, opInit("a"+string(rune('a'+min(i, 2)))), opAdd(0, 0, min(i+1, 100), i%4), opEnd(0, 0, min(i+1, 100), i%3 > 0))
		}
	}
	for i := range l {
		l[i] = under(i%16, 5000+i, l[i])
	}
	return l
}

// TestCoordsAgainstTheModel: over many rows of operations (P10.1 to P10.3).
func TestCoordsAgainstTheModel(t *testing.T) {
	c := chance(10)
	errs, marks, again, together := [10]int{}, [4]int{}, 0, 0
	for turn := range 150 {
		d, o := coord.New(), &model{}
		first := elders(turn)
		for i := range 250 + len(first) {
			var op api.Op
			if i < len(first) {
				op = first[i]
			} else {
				op = nextOp(&c, o, turn%25)
			}
			count := len(o.applied)
			want, wantMarks := o.apply(op)
			r, l := d.Apply(op)
			if r != want || !slices.Equal(l, wantMarks) {
				t.Errorf("%+v %s, not %+v %s", r, told(l), want, told(wantMarks))
			}
			o.agrees(t, d)
			if t.Failed() {
				t.Fatalf("turn %d: after %+v", turn, op)
			}
			if len(o.applied) == count {
				again++
				continue
			}
			errs[r.Err]++
			together += len(l) / 2
			for _, m := range l {
				marks[m.Kind]++
			}
		}
	}
	if errs[api.OK] < 9000 || errs[api.ErrFull] < 100 || errs[api.ErrNone] < 300 || errs[api.ErrFenced] < 500 || errs[api.ErrState] < 5000 || errs[api.ErrUsed] < 100 || again < 500 || together < 500 || marks[api.MarkInit] < 1000 || marks[api.MarkCommit] < 1500 || marks[api.MarkAbort] < 2000 {
		t.Error("too little happened:", errs, marks, again, together)
	}
}

// agrees: the Coord tells what the model tells, and that keeps what is promised of the whole.
func (o *model) agrees(t *testing.T, d *coord.Coord) {
	t.Helper()
	if got := d.Marks(); !slices.Equal(got, o.marks) {
		t.Errorf("marks %s, not %s", told(got), told(o.marks))
	}
	if d.Now() != o.now || d.Sum() != sumOf(o.marks) {
		t.Errorf("now %d, not %d; sum %x", d.Now(), o.now, d.Sum())
	}
	for p := -1; p <= 8; p++ {
		epoch, there := d.Epoch(p)
		if there != (p >= 0 && p < len(o.names)) || epoch != max(o.epoch(p), 0) {
			t.Errorf("producer %d: epoch %d %v, not %d", p, epoch, there, o.epoch(p))
		}
		want, wantParts, _, wantOk := o.open(p)
		if !wantOk {
			want.Txn = 0
		}
		if txn, parts, ok := d.Open(p); txn != want.Txn || !slices.Equal(parts, wantParts) || ok != wantOk {
			t.Errorf("producer %d: open %d %v %v, not %d %v %v", p, txn, parts, ok, want.Txn, wantParts, wantOk)
		}
	}
}

// TestNoTransactionIsDecidedTwice, and what is decided is not open (P10.3).
func TestNoTransactionIsDecidedTwice(t *testing.T) {
	c := chance(41)
	count := 0
	for turn := range 60 {
		d, o := coord.New(), &model{}
		for range 300 {
			op := nextOp(&c, o, turn%20)
			o.apply(op)
			d.Apply(op)
		}
		seen := map[api.Mark]int{}
		for _, m := range d.Marks() {
			if m.Kind != api.MarkInit {
				m.Kind = 0
				count++
			}
			seen[m]++
			if seen[m] > 1 {
				t.Errorf("twice: %v", m)
			}
		}
		for p := range 8 {
			epoch, _ := d.Epoch(p)
			txn, _, ok := d.Open(p)
			if ok && seen[api.Mark{Producer: p, Epoch: epoch, Txn: txn}] > 0 {
				t.Errorf("producer %d: %d is open and decided", p, txn)
			}
		}
	}
	if count < 2000 {
		t.Error("too little happened:", count)
	}
}
