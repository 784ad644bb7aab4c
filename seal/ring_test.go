package seal_test

import (
	"bytes"
	"crypto/hmac"
	"crypto/sha256"
	"encoding/hex"
	"math"
	"slices"
	"strings"
	"testing"

	"seneschal/api"
	"seneschal/seal"
)

// heldNodes: numbers of nodes that New is asked for, and how many there are then (P4.1).
var heldNodes = []struct{ asked, held int }{
	{math.MinInt, 1}, {math.MinInt + 1, 1}, {-1 << 32, 1}, {-256, 1}, {-10, 1}, {-2, 1}, {-1, 1}, {0, 1},
	{1, 1}, {2, 2}, {3, 3}, {4, 4}, {5, 5}, {6, 6}, {7, 7}, {8, 8}, {9, 9}, {10, 10},
	{11, 10}, {12, 10}, {255, 10}, {256, 10}, {257, 10}, {1 << 32, 10}, {1<<32 + 4, 10}, {math.MaxInt - 1, 10}, {math.MaxInt, 10},
}

func TestNewHoldsNodesWithinItsBounds(t *testing.T) {
	for _, c := range heldNodes {
		ring := seal.New(c.asked, namedSeed)
		if ring == nil {
			t.Fatalf("New(%d) is nil", c.asked)
		}
		if got := ring.Nodes(); got != c.held {
			t.Errorf("New(%d) has %d nodes, not %d", c.asked, got, c.held)
		}
		sealsAs(t, ring, c.held, namedSeed)
	}
	if api.MaxNodes != 10 {
		t.Error("the numbers above are those of 10 nodes at most")
	}
}

// sealsAs: the ring has the seals of so many nodes of the seed, and of no other one (P4.1).
func sealsAs(t *testing.T, ring *seal.Ring, nodes int, seed api.Hash) {
	t.Helper()
	row := []byte("what is sealed")
	for i := range nodes {
		if got, want := ring.Seal(i, row), sealOfOthers(seed, i, row); got != want {
			t.Errorf("node %d of %d: %x, not %x", i, nodes, got, want)
		}
	}
	for _, i := range noNodes(nodes) {
		if got := ring.Seal(i, row); got != (api.Hash{}) {
			t.Errorf("%d is no node of %d: %x", i, nodes, got)
		}
	}
}

// noNodes are numbers that no node of so many has; some of them have a node's lowest byte or lowest 32 digits.
func noNodes(nodes int) []int {
	return []int{
		math.MinInt, math.MinInt + 1, -1 << 32, -256, -255, -nodes, -1,
		nodes, nodes + 1, 10, 11, 255, 256, 257, 1 << 32, 1<<32 + 1, math.MaxInt - 1, math.MaxInt,
	}
}

// knownSeals: seals of a ring of ten, as others work them out (P4.1).
var knownSeals = []struct {
	seed api.Hash
	node int
	row  string
	tag  string
}{
	{namedSeed, 0, "", "bacf3b47612363653c5479e94efac50e0b96780e1fc156d9f9a3cf7e20a1d6d3"},
	{namedSeed, 0, "abc", "2837fef3d0446e530a8e8552db9ec616dacd03f3315954521010d3edc76c4bbc"},
	{namedSeed, 1, "abc", "39099fd0c249105cb8cd7f8672ef6d7484874d53bcbdaa3ea9cb087857f0690c"},
	{namedSeed, 3, strings.Repeat("a", 64), "ce9aa03e6c12a39eb9ba33cc4a31ba5cb4298e5ec9f7116bd2d6285cd2e650f0"},
	{namedSeed, 9, strings.Repeat("a", 200), "1cee83d1e4bb12174feed4ff9bf9b98e74210ebc185dc076c75c5217a3e685b2"},
	{api.Hash{}, 0, "", "47997685b3500eefb7c362e5299715243ed47a054e18e2cb6cfc9cb74db88525"},
	{api.Hash{}, 1, "abc", "0d2469c98825ac02d9e03ecc57a23e56509dfad177256764ef50ecb1b580afc7"},
	{api.Hash{}, 9, "abc", "cd5d927a03cd89e664db5b47ccdd03a7acc4e482a213d152b0f66618fc287b69"},
	{fullSeed, 0, "abc", "27d4fc4bd32f9ab074dd09af5651ccb8ff56cd157a97d037967bca2d9ae7c3c7"},
	{fullSeed, 3, "", "3033162af823f5164e417b576efb9ac2bfd4cd156ba0d84801448e0971fddd79"},
	{fullSeed, 9, strings.Repeat("a", 64), "f36d965ba97bb510d9069672b75fb4d1c234c515d538c055cddcdfbef3bffec5"},
}

func TestKnownSeals(t *testing.T) {
	for _, c := range knownSeals {
		ring := seal.New(10, c.seed)
		if got := ring.Seal(c.node, []byte(c.row)); hex.EncodeToString(got[:]) != c.tag {
			t.Errorf("seed %x, node %d, %q: %x, not %s", c.seed, c.node, c.row, got, c.tag)
		}
	}
}

func TestSealsOfSeveralSeedsAndRows(t *testing.T) {
	for _, seed := range seeds() {
		for nodes := 1; nodes <= api.MaxNodes; nodes++ {
			ring := seal.New(nodes, seed)
			for i := range nodes {
				for _, row := range rows() {
					want := sealOfOthers(seed, i, row)
					if got := ring.Seal(i, row); got != want {
						t.Fatalf("seed %x, node %d of %d, %d bytes: %x, not %x", seed, i, nodes, len(row), got, want)
					}
					if !ring.Check(i, row, want) {
						t.Fatalf("seed %x, node %d of %d, %d bytes: its own seal is none", seed, i, nodes, len(row))
					}
				}
			}
		}
	}
}

func TestNilAndEmptyRowsAreSealedAlike(t *testing.T) {
	ring := seal.New(4, namedSeed)
	for i := range 4 {
		tag := ring.Seal(i, nil)
		if tag != ring.Seal(i, []byte{}) || !ring.Check(i, []byte{}, tag) || !ring.Check(i, nil, tag) {
			t.Error(i)
		}
	}
}

// TestWhoIsNoNodeHasNoSeal: noughts are answered there, and neither they nor a seal that such a node would have are taken (P4.1).
func TestWhoIsNoNodeHasNoSeal(t *testing.T) {
	for _, seed := range seeds() {
		for nodes := 1; nodes <= api.MaxNodes; nodes++ {
			ring := seal.New(nodes, seed)
			for _, i := range noNodes(nodes) {
				for _, row := range [][]byte{nil, {}, []byte("abc")} {
					if got := ring.Seal(i, row); got != (api.Hash{}) {
						t.Fatalf("%d is no node of %d: %x", i, nodes, got)
					}
					if ring.Check(i, row, api.Hash{}) || ring.Check(i, row, sealOfOthers(seed, i, row)) || ring.Check(i, row, ring.Seal(0, row)) {
						t.Fatalf("%d is no node of %d, and its seal is taken", i, nodes)
					}
				}
			}
		}
	}
}

// TestCheckTellsNodesApart: each node's seal is that of one node alone, in greater and smaller rings of one seed too (P4.1).
func TestCheckTellsNodesApart(t *testing.T) {
	row := []byte("abc")
	whole := seal.New(api.MaxNodes, namedSeed)
	for nodes := 1; nodes <= api.MaxNodes; nodes++ {
		ring := seal.New(nodes, namedSeed)
		for by := range api.MaxNodes {
			tag := whole.Seal(by, row)
			for i := -1; i <= api.MaxNodes; i++ {
				if got, want := ring.Check(i, row, tag), i == by && i < nodes; got != want {
					t.Errorf("node %d of %d, the seal of node %d: %v, not %v", i, nodes, by, got, want)
				}
			}
		}
	}
}

func TestCheckTellsRowsApart(t *testing.T) {
	ring := seal.New(4, namedSeed)
	all := rows()
	for i := range 4 {
		for a, sealed := range all {
			tag := ring.Seal(i, sealed)
			for b, row := range all {
				if got, want := ring.Check(i, row, tag), bytes.Equal(row, sealed); got != want {
					t.Errorf("node %d, row %d with the seal of row %d: %v, not %v", i, b, a, got, want)
				}
			}
		}
	}
}

func TestCheckSeesEveryByteOfARow(t *testing.T) {
	ring := seal.New(4, namedSeed)
	row := mixedRow(130)
	tag := ring.Seal(2, row)
	for at := range row {
		row[at] ^= 1
		if ring.Check(2, row, tag) {
			t.Errorf("byte %d is turned, and the seal is taken", at)
		}
		row[at] ^= 1
	}
	if ring.Check(2, row[:129], tag) || ring.Check(2, append(row, 0), tag) || !ring.Check(2, row, tag) {
		t.Error("a byte less, a byte more, or the row itself")
	}
}

func TestCheckTellsSeedsApart(t *testing.T) {
	row := []byte("abc")
	all := seeds()
	for a, sealing := range all {
		for b, checking := range all {
			for i := range 4 {
				tag := seal.New(4, sealing).Seal(i, row)
				if got, want := seal.New(4, checking).Check(i, row, tag), a == b; got != want {
					t.Errorf("node %d, seed %x with a seal of seed %x: %v, not %v", i, checking, sealing, got, want)
				}
			}
		}
	}
}

// TestTagsAreComparedWhole: a seal of which one binary digit is turned, or one byte is nought, is none (P4.1, Ways).
func TestTagsAreComparedWhole(t *testing.T) {
	for nodes := 1; nodes <= api.MaxNodes; nodes++ {
		ring := seal.New(nodes, namedSeed)
		for i := range nodes {
			for _, row := range [][]byte{nil, []byte("abc"), mixedRow(100)} {
				wholeTag(t, ring, i, row)
			}
		}
	}
}

func wholeTag(t *testing.T, ring *seal.Ring, i int, row []byte) {
	t.Helper()
	tag := ring.Seal(i, row)
	for at := range tag {
		for digit := range 8 {
			turned := tag
			turned[at] ^= 1 << digit
			if ring.Check(i, row, turned) {
				t.Errorf("node %d, %d bytes: digit %d of byte %d of the tag is turned, and it is taken", i, len(row), digit, at)
			}
		}
		only := api.Hash{}
		only[at] = tag[at]
		if ring.Check(i, row, only) {
			t.Errorf("node %d, %d bytes: byte %d of the tag alone is taken", i, len(row), at)
		}
	}
	if ring.Check(i, row, api.Hash{}) {
		t.Errorf("node %d, %d bytes: noughts are taken", i, len(row))
	}
	if !ring.Check(i, row, tag) {
		t.Errorf("node %d, %d bytes: its own seal is none", i, len(row))
	}
}

func TestANilRing(t *testing.T) {
	var none *seal.Ring
	if none.Nodes() != 0 {
		t.Error("a nil ring has nodes:", none.Nodes())
	}
	for _, i := range append(noNodes(0), 0, 1, 2, 9) {
		for _, row := range rows() {
			if got := none.Seal(i, row); got != (api.Hash{}) {
				t.Errorf("a nil ring seals: %d, %x", i, got)
			}
			for _, tag := range []api.Hash{{}, fullSeed, sealOfOthers(api.Hash{}, i, row), seal.New(10, namedSeed).Seal(i, row)} {
				if none.Check(i, row, tag) {
					t.Errorf("a nil ring takes a seal: %d, %x", i, tag)
				}
			}
		}
	}
}

// TestTheZeroRing: a ring that New did not make has no node.
func TestTheZeroRing(t *testing.T) {
	var ring seal.Ring
	if ring.Nodes() != 0 || ring.Seal(0, nil) != (api.Hash{}) || ring.Check(0, nil, api.Hash{}) {
		t.Error("it has a node")
	}
}

func TestWhatIsHandedInIsNeitherChangedNorKept(t *testing.T) {
	ring := seal.New(4, namedSeed)
	for _, want := range rows() {
		for _, i := range []int{-1, 0, 3, 4} {
			row := roomy(want)
			tag := ring.Seal(i, row)
			if (tag != api.Hash{}) != (i == 0 || i == 3) {
				t.Errorf("%d, %d bytes: %x", i, len(want), tag)
			}
			own, other := ring.Check(i, row, tag), ring.Check(i, row, fullSeed)
			if own != (i == 0 || i == 3) || other {
				t.Errorf("%d, %d bytes with room behind them: %v %v", i, len(want), own, other)
			}
			if !untouched(row, want) {
				t.Errorf("%d, %d bytes: what was handed in was changed", i, len(want))
			}
			spoil(row)
			if again := ring.Seal(i, want); again != tag || ring.Check(i, want, tag) != own {
				t.Errorf("%d, %d bytes: %x, and once they are spoilt %x", i, len(want), tag, again)
			}
		}
	}
}

func TestASeedIsNeitherChangedNorKept(t *testing.T) {
	seed := namedSeed
	ring := seal.New(7, seed)
	if seed != namedSeed {
		t.Error("the seed was changed")
	}
	clear(seed[:])
	sealsAs(t, ring, 7, namedSeed)
}

// TestARingSealsTheSame: whatever was asked of it or of another one meanwhile (W7).
func TestARingSealsTheSame(t *testing.T) {
	ring, twin := seal.New(7, namedSeed), seal.New(7, namedSeed)
	first := allSeals(ring)
	kept := slices.Clone(first)
	if !slices.Equal(allSeals(twin), first) {
		t.Error("two rings of one seed seal unlike")
	}
	for turn := range 5 {
		ring.Seal(turn-1, mixedRow(turn*40))
		ring.Check(turn, nil, fullSeed)
		other := seal.New(turn+1, fullSeed)
		if slices.Contains(first, other.Seal(0, []byte("abc"))) {
			t.Error("a ring of another seed seals alike")
		}
		if !slices.Equal(allSeals(ring), first) || !slices.Equal(allSeals(seal.New(7, namedSeed)), first) {
			t.Errorf("turn %d: the seals are others", turn)
		}
		if ring.Nodes() != 7 {
			t.Errorf("turn %d: %d nodes", turn, ring.Nodes())
		}
	}
	if !slices.Equal(first, kept) {
		t.Error("what was answered did not stay what it was")
	}
}

func allSeals(ring *seal.Ring) []api.Hash {
	var tags []api.Hash
	for i := range ring.Nodes() {
		for _, row := range rows() {
			tags = append(tags, ring.Seal(i, row))
		}
	}
	return tags
}

// sealOfOthers is the seal as the library works it out, of the byte of i where i is no node.
func sealOfOthers(seed api.Hash, i int, row []byte) api.Hash {
	key := sha256.Sum256(append(seed[:], byte(i)))
	m := hmac.New(sha256.New, key[:])
	m.Write(row)
	return api.Hash(m.Sum(nil))
}

var (
	namedSeed = api.Hash(sha256.Sum256([]byte("seed")))
	fullSeed  = api.Hash(bytes.Repeat([]byte{0xff}, 32))
)

// seeds are unlike; some of them differ in one byte, at either end.
func seeds() []api.Hash {
	last, first := namedSeed, namedSeed
	last[31] ^= 1
	first[0] ^= 0x80
	return []api.Hash{{}, {31: 1}, {1}, fullSeed, namedSeed, last, first, api.Hash(mixedRow(32))}
}

// rows are unlike, but for nil and no byte; of lengths around the edges of one block and of two.
func rows() [][]byte {
	all := [][]byte{nil, {}, {0}, {0, 0}, []byte("abc"), []byte("abd"), make([]byte, 32), make([]byte, 64)}
	for _, size := range []int{31, 32, 33, 55, 56, 63, 64, 65, 119, 120, 128, 200, 1000} {
		all = append(all, mixedRow(size))
	}
	return all
}

// mixedRow is so many bytes that are unlike their neighbours.
func mixedRow(size int) []byte {
	row := make([]byte, size)
	for i := range row {
		row[i] = byte(i*i*5 + i*41 + i>>4 + 0x73)
	}
	return row
}

const room = 96 // more than a block, so that what would be laid behind a row has its place there

// roomy is a row with spare room behind its end.
func roomy(p []byte) []byte {
	all := append(bytes.Clone(p), bytes.Repeat([]byte{0xa5}, room)...)
	return all[:len(p):len(all)]
}

// untouched tells whether row is still what roomy made of p, its spare room too.
func untouched(row, p []byte) bool {
	return bytes.Equal(row[:cap(row)], append(bytes.Clone(p), bytes.Repeat([]byte{0xa5}, room)...))
}

// spoil overwrites a row and the spare room behind it.
func spoil(row []byte) {
	for i := range row[:cap(row)] {
		row[:cap(row)][i] = 0xee
	}
}
