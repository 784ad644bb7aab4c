package digest_test

import (
	"bytes"
	"crypto/sha256"
	"encoding/hex"
	"strings"
	"testing"

	"seneschal/api"
	"seneschal/digest"
)

// knownSums: rows and their digests, as others work them out (P2.1).
var knownSums = []struct {
	name string
	row  []byte
	sum  string
}{
	{"nil", nil, "e3b0c44298fc1c149afbf4c8996fb92427ae41e4649b934ca495991b7852b855"},
	{"no byte", []byte{}, "e3b0c44298fc1c149afbf4c8996fb92427ae41e4649b934ca495991b7852b855"},
	{"the byte 00", []byte{0}, "6e340b9cffb37a989ca544e6bb780a2c78901d3fb33738768511a30617afa01d"},
	{"a", []byte("a"), "ca978112ca1bbdcafac231b39a23dc4da786eff8147c4e72b9807785afee48bb"},
	{"the document's example", []byte("abc"), "ba7816bf8f01cfea414140de5dae2223b00361a396177a9cb410ff61f20015ad"},
	{"the fox", []byte(fox), "d7a8fbb307d7809469ca9abcb0082e4f8d5651e46d3cdb762d02d0bf37c9e592"},
	{"32 bytes 00", make([]byte, 32), "66687aadf862bd776c8fc18b8e9f8e20089714856ee233b3902a591d0d5f2925"},
	{"56 letters", []byte("abcdbcdecdefdefgefghfghighijhijkijkljklmklmnlmnomnopnopq"), "248d6a61d20638b8e5c026930c3e6039a33ce45964ff2167f6ecedd419db06c1"},
	{"a 55 times", repeated("a", 55), "9f4390f8d30c2dd92ec9f095b65e2b9ae9b0a925a5258e241c9f1e910f734318"},
	{"a 56 times", repeated("a", 56), "b35439a4ac6f0948b6d6f9e3c6af0f5f590ce20f1bde7090ef7970686ec6738a"},
	{"a 63 times", repeated("a", 63), "7d3e74a05d7db15bce4ad9ec0658ea98e3f06eeecf16b4c6fff2da457ddc2f34"},
	{"a 64 times", repeated("a", 64), "ffe054fe7ae0cb6dc65c3af9b61d5209f439851db43d0ba5997337df154668eb"},
	{"a 65 times", repeated("a", 65), "635361c48bb9eab14198e76ea8ab7f1a41685d6ad62aa9146d301d4f17eb0ae0"},
	{"a 119 times", repeated("a", 119), "31eba51c313a5c08226adf18d4a359cfdfd8d2e816b13f4af952f7ea6584dcfb"},
	{"a 120 times", repeated("a", 120), "2f3d335432c70b580af0e8e1b3674a7c020d683aa5f73aaaedfdc55af904c21c"},
	{"a 127 times", repeated("a", 127), "c57e9278af78fa3cab38667bef4ce29d783787a2f731d4e12200270f0c32320a"},
	{"a 128 times", repeated("a", 128), "6836cf13bac400e9105071cd6af47084dfacad4e5e302c94bfed24e013afb73e"},
	{"a 129 times", repeated("a", 129), "c12cb024a2e5551cca0e08fce8f1c5e314555cc3fef6329ee994a3db752166ae"},
	{"a a million times", repeated("a", 1000000), "cdc76e5c9914fb9281a1c7e284d73e67f1809a48a497200e046d39ccc7112cd0"},
}

const fox = "The quick brown fox jumps over the lazy dog"

func TestSumOfKnownRows(t *testing.T) {
	for _, c := range knownSums {
		if got := digest.Sum(c.row); got != hashOf(c.sum) {
			t.Errorf("%s: %x, not %s", c.name, got, c.sum)
		}
	}
}

func TestSumAtEveryLength(t *testing.T) {
	row := mixedRow(700)
	for size := range len(row) + 1 {
		if got, want := digest.Sum(row[:size]), api.Hash(sha256.Sum256(row[:size])); got != want {
			t.Errorf("%d bytes: %x, not %x", size, got, want)
		}
	}
}

// TestSumTellsTheLengthInAllItsBytes: rows whose number of binary digits has two to five bytes.
func TestSumTellsTheLengthInAllItsBytes(t *testing.T) {
	sizes := []int{1<<13 - 1, 1 << 13, 1<<21 - 1, 1 << 21}
	if !testing.Short() {
		sizes = append(sizes, 1<<29)
	}
	for _, size := range sizes {
		row := make([]byte, size)
		if got, want := digest.Sum(row), api.Hash(sha256.Sum256(row)); got != want {
			t.Errorf("%d bytes: %x, not %x", size, got, want)
		}
	}
}

func TestSumSeesEveryBit(t *testing.T) {
	for _, size := range []int{1, 55, 56, 64, 65, 120, 130} {
		row := mixedRow(size)
		for at := range row {
			for digit := range 8 {
				row[at] ^= 1 << digit
				if got, want := digest.Sum(row), api.Hash(sha256.Sum256(row)); got != want {
					t.Fatalf("%d bytes, digit %d of byte %d turned: %x, not %x", size, digit, at, got, want)
				}
				row[at] ^= 1 << digit
			}
		}
	}
}

func TestSumNeitherChangesNorKeepsWhatItIsHanded(t *testing.T) {
	for _, size := range edgeSizes {
		want := mixedRow(size)
		row := roomy(want)
		sum := digest.Sum(row)
		if sum != api.Hash(sha256.Sum256(want)) {
			t.Errorf("%d bytes with room behind them: %x", size, sum)
		}
		if !untouched(row, want) {
			t.Errorf("%d bytes were changed", size)
		}
		spoil(row)
		if digest.Sum(want) != sum || digest.Sum(nil) != hashOf(knownSums[0].sum) {
			t.Errorf("a Sum hangs on one ahead of it, of %d bytes", size)
		}
	}
}

// edgeSizes: lengths around the edges of one block and of two, and of the bytes at their end.
var edgeSizes = []int{0, 1, 31, 32, 33, 55, 56, 57, 63, 64, 65, 119, 120, 127, 128, 129, 300}

// hashOf is the digest that is written so.
func hashOf(text string) api.Hash {
	b, err := hex.DecodeString(text)
	if err != nil || len(b) != len(api.Hash{}) {
		panic("no digest: " + text)
	}
	return api.Hash(b)
}

func repeated(text string, n int) []byte {
	return []byte(strings.Repeat(text, n))
}

// mixedRow is so many bytes that are unlike their neighbours.
func mixedRow(size int) []byte {
	row := make([]byte, size)
	for i := range row {
		row[i] = byte(i*i*3 + i*37 + i>>4 + 0x91)
	}
	return row
}

const room = 96 // more than a block, so that what would be laid behind a row has its place there

// roomy is a row with spare room behind its end.
func roomy(p []byte) []byte {
	all := append(bytes.Clone(p), bytes.Repeat([]byte{0xa5}, room)...)
	return all[:len(p):len(all)]
}

// untouched tells whether row is still what roomy made of p, its spare room too.
func untouched(row, p []byte) bool {
	return bytes.Equal(row[:cap(row)], append(bytes.Clone(p), bytes.Repeat([]byte{0xa5}, room)...))
}

// spoil overwrites a row and the spare room behind it.
func spoil(row []byte) {
	for i := range row[:cap(row)] {
		row[:cap(row)][i] = 0xee
	}
}
