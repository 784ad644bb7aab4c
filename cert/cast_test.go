package cert_test

import (
	"bytes"
	"encoding/hex"
	"math"
	"testing"

	"seneschal/api"
	"seneschal/cert"
	"seneschal/digest"
	"seneschal/seal"
	"seneschal/wire"
)

// knownVotes: votes of a ring of ten, their seals as others work them out (P6.1).
var knownVotes = []struct {
	kind, slot, view int
	value            string
	from             int
	tag              string
}{
	{1, 0, 0, "", 0, "24076945c3e7f7d2bf298c79701386d5ad44697471e0b4da78fb8ad4c010539b"},
	{1, 5, 2, "x", 3, "aafd47f8f53cd58ddb3c276345ce099bd9ddf5156fc381af24ebc6764271d8a5"},
	{2, 63, 8, "abc", 9, "b1334a2a54a7317f2fe0bdef5fb2dd858964b0cdecd7462141609522e1c43e08"},
	{3, 0, 0, "\x03\x02\x01\x02\x03", 1, "4ef5298ed81cce632e85ece09a0748c2f3e773bb5962e7a8737ee162cbd33189"},
	{0, 64, 9, "abc", 9, "c63fe1586d4a36ffb564a4669d35dec48acd632284ca38b4f8ae4f627d51d366"},
	{-1, -2, -3, "x", 2, "4ee0976015e013086971f93fb0a0c6ac2817049086fef2672d17379369a7ef68"},
	{300, 1 << 32, math.MaxInt, "x", 6, "89de4c76049de097d476d77745147333b99745e81533c8ee0d482bd205c7b103"},
}

func TestKnownVotes(t *testing.T) {
	r := seal.New(10, namedSeed)
	for _, c := range knownVotes {
		v := cert.Cast(r, c.kind, c.slot, c.view, cert.ValueSum([]byte(c.value)), c.from)
		if got := hex.EncodeToString(v.Tag[:]); got != c.tag {
			t.Errorf("%+v: %s", c, got)
		}
		if !cert.Good(r, v) {
			t.Errorf("%+v: not Good", c)
		}
	}
}

// castAs: Cast makes that vote, with each field as it was asked for and From's seal, or noughts where From is no node (P6.1).
func castAs(t *testing.T, r *seal.Ring, s subject, from int) {
	t.Helper()
	v := s.cast(r, from)
	if v.Kind != s.kind || v.Slot != s.slot || v.View != s.view || v.Sum != s.sum || v.From != from {
		t.Errorf("%+v by %d: %+v", s, from, v)
	}
	if want := r.Seal(from, wire.VoteBody(v)); v.Tag != want {
		t.Errorf("%+v by %d: the seal is %x, not %x", s, from, v.Tag, want)
	}
	isNode := 0 <= from && from < r.Nodes()
	want := api.Hash{}
	if isNode {
		want = tagOfOthers(namedSeed, v)
	}
	if v.Tag != want {
		t.Errorf("%+v by %d of %d: the seal is %x, not %x", s, from, r.Nodes(), v.Tag, want)
	}
	if got := cert.Good(r, v); got != isNode {
		t.Errorf("%+v by %d of %d: Good is %v", s, from, r.Nodes(), got)
	}
}

func TestCastByNodesAndByNone(t *testing.T) {
	for nodes := 1; nodes <= api.MaxNodes; nodes++ {
		r := seal.New(nodes, namedSeed)
		for kind := api.VotePrepare; kind <= api.VoteMark; kind++ {
			for _, from := range append(noNodes(nodes), nodesUpTo(nodes)...) {
				castAs(t, r, subject{kind, 5, 2, sumOf("x")}, from)
				castAs(t, r, subject{kind, 0, 0, api.Hash{}}, from)
				castAs(t, r, subject{kind, 63, 8, fullHash}, from)
			}
		}
	}
}

// TestCastOfNumbersThatMayNotBe: a vote is made of them as of others, and they stand in it as they are (P6.1).
func TestCastOfNumbersThatMayNotBe(t *testing.T) {
	for _, nodes := range []int{1, 4, api.MaxNodes} {
		r := seal.New(nodes, namedSeed)
		for _, n := range oddNumbers() {
			for _, from := range []int{math.MinInt, -1, 0, nodes - 1, nodes, math.MaxInt} {
				castAs(t, r, subject{n, 5, 2, sumOf("x")}, from)
				castAs(t, r, subject{1, n, 2, sumOf("x")}, from)
				castAs(t, r, subject{1, 5, n, sumOf("x")}, from)
				castAs(t, r, subject{n, n, n, sumOf("x")}, from)
			}
		}
	}
}

// changes make a vote another one, by one field alone.
func changes() map[string]func(*api.Vote) {
	return map[string]func(*api.Vote){
		"Kind, one more":      func(v *api.Vote) { v.Kind++ },
		"Kind, one less":      func(v *api.Vote) { v.Kind-- },
		"Kind, below 0":       func(v *api.Vote) { v.Kind = -v.Kind },
		"Kind, by 2^32":       func(v *api.Vote) { v.Kind += 1 << 32 },
		"Slot, one more":      func(v *api.Vote) { v.Slot++ },
		"Slot, one less":      func(v *api.Vote) { v.Slot-- },
		"Slot, below 0":       func(v *api.Vote) { v.Slot = -v.Slot },
		"Slot, by 2^32":       func(v *api.Vote) { v.Slot += 1 << 32 },
		"View, one more":      func(v *api.Vote) { v.View++ },
		"View, one less":      func(v *api.Vote) { v.View-- },
		"View, below 0":       func(v *api.Vote) { v.View = -v.View },
		"View, by 2^32":       func(v *api.Vote) { v.View += 1 << 32 },
		"Slot and View":       func(v *api.Vote) { v.Slot, v.View = v.View, v.Slot },
		"Sum, its first byte": func(v *api.Vote) { v.Sum[0] ^= 0x80 },
		"Sum, its last byte":  func(v *api.Vote) { v.Sum[31] ^= 1 },
		"Sum, noughts":        func(v *api.Vote) { v.Sum = api.Hash{} },
		"Sum, the Tag":        func(v *api.Vote) { v.Sum = v.Tag },
		"From, below 0":       func(v *api.Vote) { v.From = -1 },
		"From, the least":     func(v *api.Vote) { v.From = math.MinInt },
		"From, the greatest":  func(v *api.Vote) { v.From = math.MaxInt },
		"From, by 2^8":        func(v *api.Vote) { v.From += 1 << 8 },
		"From, by 2^32":       func(v *api.Vote) { v.From += 1 << 32 },
		"From, no node":       func(v *api.Vote) { v.From = api.MaxNodes },
		"Tag, noughts":        func(v *api.Vote) { v.Tag = api.Hash{} },
		"Tag, the Sum":        func(v *api.Vote) { v.Tag = v.Sum },
		"Tag, its first byte": func(v *api.Vote) { v.Tag[0]++ },
		"Tag, its last byte":  func(v *api.Vote) { v.Tag[31]-- },
	}
}

func TestGoodSeesEachField(t *testing.T) {
	for _, nodes := range []int{1, 4, 7, api.MaxNodes} {
		r := seal.New(nodes, namedSeed)
		for from := range nodes {
			v := aSubject().cast(r, from)
			if !cert.Good(r, v) {
				t.Errorf("node %d of %d: its own vote is none", from, nodes)
			}
			for name, change := range changes() {
				x := v
				change(&x)
				if cert.Good(r, x) {
					t.Errorf("node %d of %d: %s is changed, and it is Good", from, nodes, name)
				}
			}
		}
	}
}

// TestGoodTellsNodesApart: neither another node's Tag, nor another From, nor a vote of a node that the ring lacks is taken (P6.1).
func TestGoodTellsNodesApart(t *testing.T) {
	whole := seal.New(api.MaxNodes, namedSeed)
	for nodes := 1; nodes <= api.MaxNodes; nodes++ {
		r := seal.New(nodes, namedSeed)
		for by := range api.MaxNodes {
			for from := range api.MaxNodes {
				v := aSubject().cast(whole, from)
				v.Tag = aSubject().cast(whole, by).Tag
				if got, want := cert.Good(r, v), from == by && from < nodes; got != want {
					t.Errorf("node %d of %d with the seal of %d: %v", from, nodes, by, got)
				}
				// The very body of From, sealed by another one's key.
				v.Tag = whole.Seal(by, wire.VoteBody(v))
				if got, want := cert.Good(r, v), from == by && from < nodes; got != want {
					t.Errorf("node %d of %d, sealed by %d: %v", from, nodes, by, got)
				}
			}
		}
	}
}

func TestGoodSeesEveryBitOfTagAndSum(t *testing.T) {
	for _, nodes := range []int{1, 4, api.MaxNodes} {
		r := seal.New(nodes, namedSeed)
		v := aSubject().cast(r, nodes-1)
		for at := range v.Tag {
			for digit := range 8 {
				tag, sum := v, v
				tag.Tag[at] ^= 1 << digit
				sum.Sum[at] ^= 1 << digit
				if cert.Good(r, tag) || cert.Good(r, sum) {
					t.Errorf("%d nodes: digit %d of byte %d is turned, and it is Good", nodes, digit, at)
				}
			}
		}
	}
}

func TestGoodTellsSeedsApart(t *testing.T) {
	r, other := seal.New(4, namedSeed), seal.New(4, otherSeed)
	for from := range 4 {
		v := aSubject().cast(other, from)
		if cert.Good(r, v) || !cert.Good(other, v) {
			t.Error(from)
		}
	}
}

// TestGoodIsOfTheBodyAlone: of numbers that VoteBody lays alike one seal holds for both (P6.1, P5.2).
func TestGoodIsOfTheBodyAlone(t *testing.T) {
	r := seal.New(4, namedSeed)
	v := cert.Cast(r, 0, 0, 0, sumOf("x"), 2)
	for _, n := range []int{-1, -300, math.MinInt} {
		x := v
		x.Kind, x.Slot, x.View = n, n, n
		if !cert.Good(r, x) {
			t.Error(n)
		}
	}
	v = cert.Cast(r, 1, 1<<62, 2, sumOf("x"), 2)
	v.Slot = math.MaxInt
	if !cert.Good(r, v) {
		t.Error("the greatest number")
	}
}

func TestWhoIsNoNodeHasNoGoodVote(t *testing.T) {
	for nodes := 1; nodes <= api.MaxNodes; nodes++ {
		r := seal.New(nodes, namedSeed)
		for _, from := range noNodes(nodes) {
			v := aSubject().cast(r, from)
			for _, tag := range []api.Hash{{}, fullHash, v.Tag, tagOfOthers(namedSeed, v), r.Seal(0, wire.VoteBody(v))} {
				v.Tag = tag
				if cert.Good(r, v) {
					t.Errorf("%d is no node of %d, and its vote is Good", from, nodes)
				}
			}
		}
		if cert.Good(r, api.Vote{}) {
			t.Errorf("%d nodes: the zero vote is Good", nodes)
		}
	}
}

func TestValueSum(t *testing.T) {
	rows := [][]byte{nil, {}, {0}, {0, 0}, []byte("x"), []byte("abc"), make([]byte, 32), bytes.Repeat([]byte{0xff}, 200)}
	for size := 50; size < 70; size++ {
		rows = append(rows, bytes.Repeat([]byte{0x80, 7}, size)[:size])
	}
	for _, b := range rows {
		if got := cert.ValueSum(b); got != digest.Sum(b) || got != sumOf(string(b)) {
			t.Errorf("% x: %x", b, got)
		}
	}
	if got := digest.Hex(cert.ValueSum(nil)); got != "e3b0c44298fc1c149afbf4c8996fb92427ae41e4649b934ca495991b7852b855" {
		t.Error("of no byte:", got)
	}
}
