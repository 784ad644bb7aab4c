package cert_test

import (
	"bytes"
	"crypto/hmac"
	"crypto/sha256"
	"encoding/binary"
	"math"
	"slices"
	"testing"

	"seneschal/api"
	"seneschal/cert"
	"seneschal/seal"
)

var (
	namedSeed = api.Hash(sha256.Sum256([]byte("seed")))
	otherSeed = api.Hash(sha256.Sum256([]byte("another seed")))
	fullHash  = api.Hash(bytes.Repeat([]byte{0xff}, 32))
)

// subject is what is voted on.
type subject struct {
	kind, slot, view int
	sum              api.Hash
}

func (s subject) cast(r *seal.Ring, from int) api.Vote {
	return cert.Cast(r, s.kind, s.slot, s.view, s.sum, from)
}

func (s subject) who(r *seal.Ring, l []api.Vote) []int {
	return cert.Who(r, l, s.kind, s.slot, s.view, s.sum)
}

func (s subject) meets(r *seal.Ring, l []api.Vote) bool {
	return cert.Meets(r, l, s.kind, s.slot, s.view, s.sum)
}

// by is the votes of these nodes on it.
func (s subject) by(r *seal.Ring, nodes ...int) []api.Vote {
	var l []api.Vote
	for _, n := range nodes {
		l = append(l, s.cast(r, n))
	}
	return l
}

// aSubject has no number that another field of it has.
func aSubject() subject { return subject{1, 5, 2, sumOf("x")} }

// otherSubjects differ from aSubject in one field each, by little, by much, at either end.
func otherSubjects() []subject {
	s := aSubject()
	all := []subject{}
	for _, n := range []int{0, 2, 3, 1 + 1<<32, -1, math.MinInt + 1, math.MaxInt} {
		all = append(all, subject{n, s.slot, s.view, s.sum})
	}
	for _, n := range []int{4, 6, 0, 2, 5 + 1<<32, 5 - 256, -5, math.MinInt, math.MaxInt} {
		all = append(all, subject{s.kind, n, s.view, s.sum})
	}
	for _, n := range []int{1, 3, 0, 5, 2 + 1<<32, 2 - 256, -2, math.MinInt, math.MaxInt} {
		all = append(all, subject{s.kind, s.slot, n, s.sum})
	}
	first, last := s.sum, s.sum
	first[0] ^= 0x80
	last[31] ^= 1
	for _, h := range []api.Hash{first, last, {}, fullHash, sumOf("y"), sumOf("")} {
		all = append(all, subject{s.kind, s.slot, s.view, h})
	}
	return append(all, subject{s.kind, s.view, s.slot, s.sum}, subject{})
}

func sumOf(text string) api.Hash { return api.Hash(sha256.Sum256([]byte(text))) }

// tagOfOthers is the seal of a vote as the library works it out.
func tagOfOthers(seed api.Hash, v api.Vote) api.Hash {
	body := []byte{5}
	for _, n := range []int{v.Kind, v.Slot, v.View} {
		body = appendNum(body, n)
	}
	body = appendNum(append(body, v.Sum[:]...), v.From)
	key := sha256.Sum256(append(seed[:], byte(v.From)))
	m := hmac.New(sha256.New, key[:])
	m.Write(body)
	return api.Hash(m.Sum(nil))
}

// appendNum lays a number: one below 0 as 0, one above 2^62 as 2^62, the lowest seven digits first.
func appendNum(b []byte, n int) []byte {
	return binary.AppendUvarint(b, uint64(min(max(n, 0), 1<<62)))
}

// noNodes are numbers that no node of so many has; some of them have a node's lowest byte or lowest 32 digits.
func noNodes(nodes int) []int {
	return []int{
		math.MinInt, math.MinInt + 1, -1 << 32, -256, -255, -nodes, -1,
		nodes, nodes + 1, 10, 11, 255, 256, 257, 1 << 32, 1<<32 + 1, math.MaxInt - 1, math.MaxInt,
	}
}

// nodesUpTo are the numbers of so many nodes.
func nodesUpTo(count int) []int {
	var all []int
	for n := range count {
		all = append(all, n)
	}
	return all
}

// oddNumbers are such as a vote may have and such as it may not.
func oddNumbers() []int {
	return []int{
		math.MinInt, math.MinInt + 1, -1 << 32, -256, -2, -1, 0, 1, 2, 3, 4, 7, 8, 9, 10, 62, 63, 64, 65, 127, 128, 255, 256,
		1 << 20, 1 << 32, 1<<62 - 1, 1 << 62, 1<<62 + 1, math.MaxInt - 1, math.MaxInt,
	}
}

// sameNodes: what Who answered is these nodes; a list of none may be nil or empty.
func sameNodes(t *testing.T, got, want []int) {
	t.Helper()
	if !slices.Equal(got, want) {
		t.Errorf("%v, not %v", got, want)
	}
}

const room = 12 // more than MaxNodes, so that what would be laid behind a row has its place there

// roomy is a row with spare room behind its end, in which spare stands.
func roomy[T any](row []T, spare T) []T {
	all := slices.Clone(row)
	for range room {
		all = append(all, spare)
	}
	return all[:len(row):len(all)]
}

// untouched tells whether a row is still what roomy made, its spare room too.
func untouched[T comparable](row, was []T, spare T) bool {
	whole := roomy(was, spare)
	return slices.Equal(row[:cap(row)], whole[:cap(whole)])
}

// spoil overwrites a row and the spare room behind it.
func spoil[T any](row []T, with T) {
	for i := range row[:cap(row)] {
		row[:cap(row)][i] = with
	}
}

func TestTheNumbersOfTheTestsAreThoseOfPackageApi(t *testing.T) {
	got := []int{api.VotePrepare, api.VoteCommit, api.VoteMark, api.MarkInit, api.MarkCommit, api.MarkAbort, api.MaxNodes, api.MaxProducers, api.MaxEpoch, api.MaxTxn}
	if want := []int{1, 2, 3, 1, 2, 3, 10, 8, 100, 100}; !slices.Equal(got, want) {
		t.Error(got, want)
	}
}
