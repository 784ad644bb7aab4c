package rule_test

import (
	"bytes"
	"crypto/hmac"
	"crypto/sha256"
	"encoding/binary"
	"math"
	"slices"
	"testing"

	"seneschal/api"
	"seneschal/cert"
	"seneschal/rule"
	"seneschal/seal"
)

var (
	namedSeed = api.Hash(sha256.Sum256([]byte("seed")))
	otherSeed = api.Hash(sha256.Sum256([]byte("another seed")))
	spareVote = api.Vote{Kind: -7, Slot: -7, View: -7, Sum: namedSeed, From: -7, Tag: otherSeed}
)

const (
	slot  = 5    // the slot of the tests that ask for no other one
	spare = 0xa5 // what stands in the spare room behind a value
	room  = 12   // more than MaxNodes, so that what would be laid behind a row has its place there
)

func ringOf(nodes int) *seal.Ring { return seal.New(nodes, namedSeed) }

// votes are those of these nodes on a value.
func votes(r *seal.Ring, kind, slot, view int, value string, nodes ...int) []api.Vote {
	var l []api.Vote
	for _, n := range nodes {
		l = append(l, cert.Cast(r, kind, slot, view, cert.ValueSum([]byte(value)), n))
	}
	return l
}

// prepares are votes that prepare a value in the slot of the tests.
func prepares(r *seal.Ring, view int, value string, nodes ...int) []api.Vote {
	return votes(r, api.VotePrepare, slot, view, value, nodes...)
}

// proof is just enough of them.
func proof(r *seal.Ring, view int, value string) []api.Vote {
	return prepares(r, view, value, nodesUpTo(seal.Quorum(r.Nodes()))...)
}

// short is one too few of them.
func short(r *seal.Ring, view int, value string) []api.Vote {
	return prepares(r, view, value, nodesUpTo(seal.Quorum(r.Nodes())-1)...)
}

// locked is a lock that says that it is at a view; votes may prove another one.
func locked(view int, value string, votes []api.Vote) rule.Lock {
	return rule.Lock{View: view, Value: []byte(value), Votes: votes}
}

// nodesUpTo are the numbers of so many nodes.
func nodesUpTo(count int) []int {
	var all []int
	for n := range count {
		all = append(all, n)
	}
	return all
}

// tagOfOthers is the seal of a vote as the library works it out.
func tagOfOthers(v api.Vote) api.Hash {
	body := []byte{5}
	for _, n := range []int{v.Kind, v.Slot, v.View} {
		body = appendNum(body, n)
	}
	body = appendNum(append(body, v.Sum[:]...), v.From)
	key := sha256.Sum256(append(namedSeed[:], byte(v.From)))
	m := hmac.New(sha256.New, key[:])
	m.Write(body)
	return api.Hash(m.Sum(nil))
}

// appendNum lays a number: one below 0 as 0, one above 2^62 as 2^62, the lowest seven digits first.
func appendNum(b []byte, n int) []byte {
	return binary.AppendUvarint(b, uint64(min(max(n, 0), 1<<62)))
}

// provedByOthers is Proves, node by node, of a ring of namedSeed: how many nodes have among the first ten votes just the one that they would cast.
func provedByOthers(nodes int, l []api.Vote, slot, below int, value string) int {
	if len(l) == 0 || l[0].View < 0 || l[0].View >= below {
		return -1
	}
	count := 0
	for from := range nodes {
		own := api.Vote{Kind: 1, Slot: slot, View: l[0].View, Sum: sha256.Sum256([]byte(value)), From: from}
		own.Tag = tagOfOthers(own)
		if slices.Contains(l[:min(len(l), 10)], own) {
			count++
		}
	}
	if count < nodes-(nodes-1)/3 {
		return -1
	}
	return l[0].View
}

// proves: that view is proved, and none where it is -1.
func proves(t *testing.T, r *seal.Ring, l []api.Vote, slot, below int, value string, want int) {
	t.Helper()
	view, ok := rule.Proves(r, l, slot, below, []byte(value))
	if view != want || ok != (want >= 0) {
		t.Errorf("%d nodes, %d votes, slot %d, below %d, %q: %d %v, not %d", r.Nodes(), len(l), slot, below, value, view, ok, want)
	}
}

// sameLock tells whether all fields are alike; a list of none may be nil or empty.
func sameLock(a, b rule.Lock) bool {
	return a.View == b.View && bytes.Equal(a.Value, b.Value) && slices.Equal(a.Votes, b.Votes)
}

// isLock: what was answered is that lock.
func isLock(t *testing.T, got, want rule.Lock) {
	t.Helper()
	if !sameLock(got, want) {
		t.Errorf("%d %q with %d votes, not %d %q with %d", got.View, got.Value, len(got.Votes), want.View, want.Value, len(want.Votes))
	}
}

// isFree: what was answered is bound to nothing.
func isFree(t *testing.T, k rule.Lock) {
	t.Helper()
	if k.View != -1 || len(k.Value) != 0 || len(k.Votes) != 0 {
		t.Errorf("%d %q with %d votes: not Free", k.View, k.Value, len(k.Votes))
	}
}

// chance is a row of numbers that is the same each time.
type chance uint32

// below is the next number of it, 0 or more and below top.
func (c *chance) below(top int) int {
	*c = *c*1664525 + 1013904223
	return int(*c>>16) % top
}

// farNumbers are at either end of all, and near nought and powers of two.
func farNumbers() []int {
	return []int{
		math.MinInt, math.MinInt + 1, -1 << 32, -256, -2, -1, 0, 1, 2, 3, 7, 8, 9, 63, 64, 255, 256,
		1 << 32, 1<<62 - 1, 1 << 62, 1<<62 + 1, math.MaxInt - 1, math.MaxInt,
	}
}

// roomy is a row with spare room behind its end, in which filler stands.
func roomy[T any](row []T, filler T) []T {
	all := slices.Clone(row)
	for range room {
		all = append(all, filler)
	}
	return all[:len(row):len(all)]
}

// untouched tells whether a row is still what roomy made, its spare room too.
func untouched[T comparable](row, was []T, filler T) bool {
	whole := roomy(was, filler)
	return slices.Equal(row[:cap(row)], whole[:cap(whole)])
}

// spoil overwrites a row and the spare room behind it.
func spoil[T any](row []T, with T) {
	for i := range row[:cap(row)] {
		row[:cap(row)][i] = with
	}
}

func TestTheNumbersOfTheTestsAreThoseOfPackageApi(t *testing.T) {
	got := []int{api.VotePrepare, api.VoteCommit, api.VoteMark, api.MaxNodes}
	if want := []int{1, 2, 3, 10}; !slices.Equal(got, want) {
		t.Error(got, want)
	}
}
