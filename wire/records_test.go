package wire_test

import (
	"bytes"
	"encoding/binary"
	"math"
	"slices"
	"testing"

	"seneschal/api"
)

// laid is what a record is made of: numbers, and bytes that stand as they are.
type laid []part

type part struct {
	number int
	raw    []byte
	isRaw  bool
}

func (l laid) nums(v ...int) laid {
	for _, n := range v {
		l = append(l, part{number: n})
	}
	return l
}

func (l laid) bytes(p []byte) laid { return append(l.nums(len(p)), part{raw: p, isRaw: true}) }

func (l laid) hash(h api.Hash) laid { return append(l, part{raw: h[:], isRaw: true}) }

func (l laid) votes(votes []api.Vote) laid {
	l = l.nums(len(votes))
	for _, v := range votes {
		l = l.nums(v.Kind, v.Slot, v.View).hash(v.Sum).nums(v.From).hash(v.Tag)
	}
	return l
}

// out is the bytes of it: a number below 0 as 0, one above 2^62 as 2^62, the lowest seven digits first.
func (l laid) out() []byte {
	var all []byte
	for _, p := range l {
		if p.isRaw {
			all = append(all, p.raw...)
			continue
		}
		all = binary.AppendUvarint(all, uint64(min(max(p.number, 0), 1<<62)))
	}
	return all
}

func msgLaid(m api.Msg) laid {
	return laid{}.nums(1, m.Kind, m.From, m.To, m.Slot, m.View).bytes(m.Value).votes(m.Votes).hash(m.Tag)
}

func opLaid(o api.Op) laid {
	commit := map[bool]int{true: 1}[o.Commit]
	return laid{}.nums(2, o.Kind, o.Client, o.Seq).bytes([]byte(o.Name)).nums(o.Producer, o.Epoch, o.Txn, o.Part, commit)
}

func markLaid(m api.Mark) laid { return laid{}.nums(3, m.Kind, m.Producer, m.Epoch, m.Txn) }

func bodyLaid(m api.Msg) laid {
	return laid{}.nums(4, m.Kind, m.From, m.Slot, m.View).bytes(m.Value).votes(m.Votes)
}

func voteBodyLaid(v api.Vote) laid {
	return laid{}.nums(5, v.Kind, v.Slot, v.View).hash(v.Sum).nums(v.From)
}

// field is a number of a record, and from where to where it may go.
type field[T any] struct {
	name            string
	at              func(*T) *int
	least, greatest int
}

// beyond are numbers that the field may not have; some of them would be within if they were cut to fewer digits.
func (f field[T]) beyond() []int {
	return []int{
		math.MinInt, math.MinInt + 1, math.MinInt + f.least, math.MinInt32, -1 << 32, -256 + f.least, -1, f.least - 1,
		f.greatest + 1, f.greatest + 2, f.greatest + 1<<28, f.least + 1<<32, 1<<62 - 1, 1 << 62, 1<<62 + 1, math.MaxInt - 1, math.MaxInt,
	}
}

// within are numbers that it may have.
func (f field[T]) within() []int {
	return []int{f.least, f.least + 1, (f.least + f.greatest) / 2, f.greatest - 1, f.greatest}
}

var voteFields = []field[api.Vote]{
	{"Kind", func(v *api.Vote) *int { return &v.Kind }, 1, 3},
	{"Slot", func(v *api.Vote) *int { return &v.Slot }, 0, 63},
	{"View", func(v *api.Vote) *int { return &v.View }, 0, 8},
	{"From", func(v *api.Vote) *int { return &v.From }, 0, 9},
}

var msgFields = []field[api.Msg]{
	{"Kind", func(m *api.Msg) *int { return &m.Kind }, 1, 6},
	{"From", func(m *api.Msg) *int { return &m.From }, 0, 9},
	{"To", func(m *api.Msg) *int { return &m.To }, 0, 9},
	{"Slot", func(m *api.Msg) *int { return &m.Slot }, 0, 63},
	{"View", func(m *api.Msg) *int { return &m.View }, 0, 8},
}

var (
	opKind     = field[api.Op]{"Kind", func(o *api.Op) *int { return &o.Kind }, 1, 4}
	opClient   = field[api.Op]{"Client", func(o *api.Op) *int { return &o.Client }, 0, 15}
	opSeq      = field[api.Op]{"Seq", func(o *api.Op) *int { return &o.Seq }, 0, 1048576}
	opProducer = field[api.Op]{"Producer", func(o *api.Op) *int { return &o.Producer }, 0, 7}
	opEpoch    = field[api.Op]{"Epoch", func(o *api.Op) *int { return &o.Epoch }, 0, 100}
	opTxn      = field[api.Op]{"Txn", func(o *api.Op) *int { return &o.Txn }, 0, 100}
	opPart     = field[api.Op]{"Part", func(o *api.Op) *int { return &o.Part }, 0, 3}
)

// opFields: the numbers that each kind of operation names, beside its kind.
var opFields = map[int][]field[api.Op]{
	1: {opClient, opSeq},
	2: {opClient, opSeq, opProducer, opEpoch, opTxn, opPart},
	3: {opClient, opSeq, opProducer, opEpoch, opTxn},
	4: {opClient, opSeq},
}

var markFields = []field[api.Mark]{
	{"Kind", func(m *api.Mark) *int { return &m.Kind }, 1, 3},
	{"Producer", func(m *api.Mark) *int { return &m.Producer }, 0, 7},
	{"Epoch", func(m *api.Mark) *int { return &m.Epoch }, 0, 100},
	{"Txn", func(m *api.Mark) *int { return &m.Txn }, 0, 100},
}

func TestTheNumbersAboveAreThoseOfPackageApi(t *testing.T) {
	got := []int{api.MaxNodes, api.MaxSlots, api.MaxView, api.MaxValue, api.MaxClient, api.MaxSeq, api.MaxName, api.MaxProducers, api.MaxEpoch, api.MaxTxn, api.MaxPart}
	if want := []int{10, 64, 8, 200, 15, 1048576, 8, 8, 100, 100, 3}; !slices.Equal(got, want) {
		t.Error(got, want)
	}
	kinds := []int{api.VotePrepare, api.VoteMark, api.MsgRequest, api.MsgMark, api.OpInit, api.OpAdd, api.OpEnd, api.OpTick, api.MarkInit, api.MarkCommit, api.MarkAbort}
	if want := []int{1, 3, 1, 6, 1, 2, 3, 4, 1, 2, 3}; !slices.Equal(kinds, want) {
		t.Error(kinds, want)
	}
}

// aHash is a digest whose bytes are all unlike, and unlike those of its neighbours.
func aHash(n int) api.Hash {
	var h api.Hash
	for i := range h {
		h[i] = byte(n*53 + i*7 + 0x80)
	}
	return h
}

func aVote(n int) api.Vote {
	return api.Vote{Kind: 1 + n%3, Slot: (n * 7) % 64, View: n % 9, Sum: aHash(2 * n), From: (n * 3) % 10, Tag: aHash(2*n + 1)}
}

func someVotes(count int) []api.Vote {
	var votes []api.Vote
	for n := range count {
		votes = append(votes, aVote(n))
	}
	return votes
}

func aMsg() api.Msg {
	return api.Msg{Kind: 2, From: 3, To: 4, Slot: 5, View: 6, Value: []byte{0, 0x80, 0xff}, Votes: someVotes(3), Tag: aHash(99)}
}

// msgsThatMayBe are messages of every kind, each field at its edges, with few and many votes and bytes.
func msgsThatMayBe() []api.Msg {
	all := []api.Msg{
		aMsg(),
		{Kind: 1},
		{Kind: 1, Value: []byte{}, Votes: []api.Vote{}},
		{Kind: 6, From: 9, To: 9, Slot: 63, View: 8, Value: mixedRow(200), Votes: someVotes(10), Tag: aHash(7)},
	}
	for _, size := range []int{0, 1, 2, 127, 128, 129, 199, 200} {
		m := aMsg()
		m.Value = mixedRow(size)
		all = append(all, m)
	}
	for count := range 11 {
		m := aMsg()
		m.Votes = someVotes(count)
		all = append(all, m)
	}
	for _, f := range msgFields {
		for _, n := range f.within() {
			m := aMsg()
			*f.at(&m) = n
			all = append(all, m)
		}
	}
	for _, f := range voteFields {
		for _, n := range f.within() {
			for i := range 3 {
				m := aMsg()
				*f.at(&m.Votes[i]) = n
				all = append(all, m)
			}
		}
	}
	return all
}

// msgsThatMayNotBe are messages with one thing amiss.
func msgsThatMayNotBe() []api.Msg {
	var all []api.Msg
	add := func(change func(*api.Msg)) {
		m := aMsg()
		change(&m)
		all = append(all, m)
	}
	for _, f := range msgFields {
		for _, n := range f.beyond() {
			add(func(m *api.Msg) { *f.at(m) = n })
		}
	}
	for _, f := range voteFields {
		for _, n := range f.beyond() {
			for i := range 3 {
				add(func(m *api.Msg) { *f.at(&m.Votes[i]) = n })
			}
			add(func(m *api.Msg) { m.Votes = someVotes(10); *f.at(&m.Votes[9]) = n })
			add(func(m *api.Msg) { m.Votes = someVotes(1); *f.at(&m.Votes[0]) = n })
		}
	}
	for _, size := range []int{201, 202, 256, 300, 456, 65536 + 100} {
		add(func(m *api.Msg) { m.Value = mixedRow(size) })
	}
	for _, count := range []int{11, 12, 20, 256, 259} {
		add(func(m *api.Msg) { m.Votes = someVotes(count) })
	}
	add(func(m *api.Msg) { m.Votes = make([]api.Vote, 1) })
	return append(all, api.Msg{}, api.Msg{From: -1, To: 10, Slot: 64, View: 9, Value: mixedRow(201), Votes: make([]api.Vote, 11)})
}

// bareOps: one operation of each kind.
var bareOps = []api.Op{
	{Kind: 1, Client: 7, Seq: 300, Name: "name"},
	{Kind: 2, Client: 7, Seq: 300, Producer: 3, Epoch: 4, Txn: 5, Part: 2},
	{Kind: 3, Client: 7, Seq: 300, Producer: 3, Epoch: 4, Txn: 5, Commit: true},
	{Kind: 4, Client: 7, Seq: 300},
}

// opsThatMayBe are operations of every kind, each field at its edges.
func opsThatMayBe() []api.Op {
	all := append([]api.Op{{Kind: 1, Name: "a"}, {Kind: 2}, {Kind: 3}, {Kind: 4}}, bareOps...)
	for _, o := range bareOps {
		for _, f := range opFields[o.Kind] {
			for _, n := range f.within() {
				o := o
				*f.at(&o) = n
				all = append(all, o)
			}
		}
	}
	for _, name := range []string{"a", "z", "az", "abcdefg", "zzzzzzzz", "abcdefgh", "mnopqrst", "ijkl", "uvwxyz"} {
		all = append(all, api.Op{Kind: 1, Name: name})
	}
	return append(all,
		api.Op{Kind: 2, Client: 15, Seq: 1 << 20, Producer: 7, Epoch: 100, Txn: 100, Part: 3},
		api.Op{Kind: 3, Client: 15, Seq: 1 << 20, Producer: 7, Epoch: 100, Txn: 100},
		api.Op{Kind: 3, Client: 15, Seq: 1 << 20, Producer: 7, Epoch: 100, Txn: 100, Commit: true})
}

// noNames are texts that no producer has: too short, too long, with a byte that is none of a to z.
func noNames() []string {
	all := []string{"", "abcdefghi", "aaaaaaaaaaaaaaaa", string(make([]byte, 256+4)), "äb", "日本", "a\xff", "\x80", "a b", "Ab", "aB", "a_c", "a0", "\x00", "abcdefg\x00", "ABC"}
	for b := range 256 {
		if b < 'a' || b > 'z' {
			all = append(all, string([]byte{byte(b)}), string([]byte{byte(b), 'a'}), string([]byte{'a', byte(b)}), string([]byte{'a', 'b', 'c', byte(b), 'd', 'e', 'f', 'g'}))
		}
	}
	return all
}

// opsThatMayNotBe are operations with one thing amiss.
func opsThatMayNotBe() []api.Op {
	var all []api.Op
	everyField := []field[api.Op]{opKind, opClient, opSeq, opProducer, opEpoch, opTxn, opPart}
	for _, bare := range append([]api.Op{{Kind: 1, Name: "a"}, {Kind: 2}, {Kind: 3}, {Kind: 4}}, bareOps...) {
		for _, f := range everyField {
			amiss := f.beyond()
			if f.name != "Kind" && !slices.ContainsFunc(opFields[bare.Kind], func(g field[api.Op]) bool { return g.name == f.name }) {
				amiss = append(amiss, 1, 2, f.greatest) // its kind does not name it
			}
			for _, n := range amiss {
				o := bare
				*f.at(&o) = n
				all = append(all, o)
			}
		}
		if bare.Kind != 1 {
			for _, name := range []string{"a", "abcdefgh", "A", "\x00", "abcdefghi"} {
				o := bare
				o.Name = name
				all = append(all, o)
			}
		}
		if bare.Kind != 3 {
			o := bare
			o.Commit = true
			all = append(all, o)
		}
	}
	for _, name := range noNames() {
		all = append(all, api.Op{Kind: 1, Client: 7, Seq: 300, Name: name})
	}
	return append(all, api.Op{}, api.Op{Name: "a"}, api.Op{Kind: 5, Name: "a"})
}

// marksThatMayBe are marks of every kind, each field at its edges.
func marksThatMayBe() []api.Mark {
	all := []api.Mark{{Kind: 1}, {Kind: 2}, {Kind: 3}, {Kind: 1, Producer: 7, Epoch: 100}, {Kind: 2, Producer: 7, Epoch: 100, Txn: 100}, {Kind: 3, Producer: 7, Epoch: 100, Txn: 100}}
	for kind := 1; kind <= 3; kind++ {
		for _, f := range markFields[1:] {
			for _, n := range f.within() {
				if kind == 1 && f.name == "Txn" && n != 0 {
					continue
				}
				m := api.Mark{Kind: kind}
				*f.at(&m) = n
				all = append(all, m)
			}
		}
	}
	return all
}

// marksThatMayNotBe are marks with one thing amiss.
func marksThatMayNotBe() []api.Mark {
	all := []api.Mark{{}, {Producer: 1}, {Kind: 1, Txn: 1}, {Kind: 1, Txn: 2}, {Kind: 1, Producer: 3, Epoch: 4, Txn: 100}}
	for kind := 1; kind <= 3; kind++ {
		for _, f := range markFields {
			for _, n := range f.beyond() {
				m := api.Mark{Kind: kind, Producer: 3, Epoch: 4}
				*f.at(&m) = n
				all = append(all, m)
			}
		}
	}
	return all
}

// mixedRow is a row of so many bytes, of every value where it is long enough.
func mixedRow(size int) []byte {
	row := make([]byte, size)
	for i := range row {
		row[i] = byte(i*i*5 + i*41 + i>>4 + 0x73)
	}
	return row
}

const room = 200 // more than a vote, so that what would be laid behind a row has its place there

// roomy is a row with spare room behind its end.
func roomy(p []byte) []byte {
	all := append(bytes.Clone(p), bytes.Repeat([]byte{0xa5}, room)...)
	return all[:len(p):len(all)]
}

// untouched tells whether row is still what roomy made of p, its spare room too.
func untouched(row, p []byte) bool {
	return bytes.Equal(row[:cap(row)], append(bytes.Clone(p), bytes.Repeat([]byte{0xa5}, room)...))
}

// spoil overwrites a row and the spare room behind it.
func spoil[T any](row []T, with T) {
	for i := range row[:cap(row)] {
		row[:cap(row)][i] = with
	}
}
