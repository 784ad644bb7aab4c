package digest_test

import (
	"bytes"
	"crypto/hmac"
	"crypto/sha256"
	"strings"
	"testing"

	"seneschal/api"
	"seneschal/digest"
)

// knownLinks: rows, and their Link with the digest of abc (P2.2).
var knownLinks = []struct {
	name string
	row  []byte
	sum  string
}{
	{"nil", nil, "4f8b42c22dd3729b519ba6f68d2da7cc5b2d606d05daed5ad5128cc03e6c6358"},
	{"no byte", []byte{}, "4f8b42c22dd3729b519ba6f68d2da7cc5b2d606d05daed5ad5128cc03e6c6358"},
	{"abc", []byte("abc"), "3043d048d0d28ecf94e6eb021f76e69b76a1ead7d7a0d1392696bb2c09c261f1"},
	{"a 23 times", repeated("a", 23), "cbca90323e3127a635c670cc9d8cf859f4b72b0fab630cf1dd0b35eceff08767"},
	{"a 24 times", repeated("a", 24), "a2852e72ae12d28b9c3e6e22bea11c9d292fb739efc6865c8c3fc7979f5fd31c"},
	{"a 31 times", repeated("a", 31), "010efd54bb371615fcf639486b743262d518a356b3a703ae840ad3d2d0c74eca"},
	{"a 32 times", repeated("a", 32), "0b9663df8934def8ad1918ff4b4dea80784fdddaf57c0501f5c5949b2fa1f33d"},
	{"a 33 times", repeated("a", 33), "1f2ca9c3bb91f284d7dde7ad33ec752e779c778e60d843740a7620654f7d0097"},
	{"a 1000 times", repeated("a", 1000), "d9624e2576cbbcda116fc485ef237a31bdd6c0f5a0e406a1000c4dd19d0f69ca"},
}

func TestLinkOfKnownRows(t *testing.T) {
	abc := hashOf("ba7816bf8f01cfea414140de5dae2223b00361a396177a9cb410ff61f20015ad")
	for _, c := range knownLinks {
		if got := digest.Link(abc, c.row); got != hashOf(c.sum) {
			t.Errorf("%s: %x, not %s", c.name, got, c.sum)
		}
	}
}

func TestLinkIsTheSumOfBoth(t *testing.T) {
	row := mixedRow(300)
	heads := []api.Hash{{}, {31: 1}, {1}, hashOf(strings.Repeat("ff", 32)), api.Hash(mixedRow(32))}
	for _, head := range heads {
		for size := range len(row) + 1 {
			both := append(bytes.Clone(head[:]), row[:size]...)
			if got, want := digest.Link(head, row[:size]), api.Hash(sha256.Sum256(both)); got != want {
				t.Fatalf("%x and %d bytes: %x, not %x", head, size, got, want)
			}
		}
	}
}

func TestLinksOfLinks(t *testing.T) {
	var got, want api.Hash
	for i := range 50 {
		row := mixedRow(i * 3)
		got = digest.Link(got, row)
		want = sha256.Sum256(append(want[:], row...))
	}
	if got != want {
		t.Errorf("%x, not %x", got, want)
	}
}

// knownMacs: keys, rows and their Macs, as others work them out (P2.2).
var knownMacs = []struct {
	name     string
	key, row []byte
	mac      string
}{
	{"the document's example", []byte("key"), []byte(fox), "f7bc83f430538424b13298e6aa6fb143ef4d59a14946175997479dbc2d1a3cd8"},
	{"nil, nil", nil, nil, "b613679a0814d9ec772f95d778c35fc5ff1697c493715653c6c712144292c5ad"},
	{"no byte, no byte", []byte{}, []byte{}, "b613679a0814d9ec772f95d778c35fc5ff1697c493715653c6c712144292c5ad"},
	{"nil", nil, []byte("hello"), "4352b26e33fe0d769a8922a6ba29004109f01688e26acc9e6cb347e5a5afc4da"},
	{"no byte", []byte{}, []byte("hello"), "4352b26e33fe0d769a8922a6ba29004109f01688e26acc9e6cb347e5a5afc4da"},
	{"a byte 00", []byte{0}, []byte("hello"), "4352b26e33fe0d769a8922a6ba29004109f01688e26acc9e6cb347e5a5afc4da"},
	{"k", []byte("k"), []byte("hello"), "406e4b43f87095aa86ca6299d25e875921fefa180f02043bb29bec5681c0c2d0"},
	{"k, nil", []byte("k"), nil, "8bb990c40a7d61cb97597a942125025be50ac8beb74436e3735b98893a7f6620"},
	{"32 bytes", repeated("k", 32), []byte("hello"), "b77dedb81d7deb352f617552af07a682c4267366ef53870025bc48b701c8a76d"},
	{"63 bytes", repeated("k", 63), []byte("hello"), "6c2c19a752c3f34e892e5b41b3162c06ca1d9dc145076777da9ae1072efc92c4"},
	{"64 bytes", repeated("k", 64), []byte("hello"), "6d96ee5bc4b08a46dc2b771445f0353ff7b8fc08691b0491f4bcac9d184177b4"},
	{"64 bytes, nil", repeated("k", 64), nil, "83026a325aaee70e36cfe607536aa1054104ad1077c36134810d4ccded1ccd3b"},
	{"65 bytes", repeated("k", 65), []byte("hello"), "edbbe32a95786f734ec02887a09a8814b83f71be6ed8ff8d5c6049bdc2d035cc"},
	{"65 bytes, no byte", repeated("k", 65), []byte{}, "41f1c4cc3107cd5b8d92460f61032902bfdb06484eef17e861b83a5012d3b7f3"},
	{"128 bytes", repeated("k", 128), []byte("hello"), "f8946ebfff183cea255144e9525e0e545a8a61bd387361f5ac24cf1a02d1ef76"},
	{"300 bytes", repeated("k", 300), []byte("hello"), "f23ca5345da36e03849a6833e38c47ec81b0377b708047430a7e9f7d57894d79"},
	{"131 bytes", repeated("\xaa", 131), []byte("Test Using Larger Than Block-Size Key - Hash Key First"), "60e431591ee0b67f0d8a26aacbf5b77f8e0bc6213728c5140546040f0ee37f54"},
}

func TestMacOfKnownRows(t *testing.T) {
	for _, c := range knownMacs {
		if got := digest.Mac(c.key, c.row); got != hashOf(c.mac) {
			t.Errorf("%s: %x, not %s", c.name, got, c.mac)
		}
	}
}

func macOfOthers(key, row []byte) api.Hash {
	m := hmac.New(sha256.New, key)
	m.Write(row)
	return api.Hash(m.Sum(nil))
}

func TestMacAtEveryLength(t *testing.T) {
	row := mixedRow(200)
	for size := range len(row) + 1 {
		for _, other := range edgeSizes {
			fixed := mixedRow(other)
			if got, want := digest.Mac(row[:size], fixed), macOfOthers(row[:size], fixed); got != want {
				t.Fatalf("a key of %d and a row of %d bytes: %x, not %x", size, other, got, want)
			}
			if got, want := digest.Mac(fixed, row[:size]), macOfOthers(fixed, row[:size]); got != want {
				t.Fatalf("a key of %d and a row of %d bytes: %x, not %x", other, size, got, want)
			}
		}
	}
}

func TestHexDigitByDigit(t *testing.T) {
	const digits = "0123456789abcdef"
	for at := range len(api.Hash{}) {
		for b := range 256 {
			var h api.Hash
			h[at] = byte(b)
			want := strings.Repeat("00", at) + string(digits[b/16]) + string(digits[b%16]) + strings.Repeat("00", 31-at)
			if got := digest.Hex(h); got != want {
				t.Fatalf("byte %d is %d: %s, not %s", at, b, got, want)
			}
		}
	}
}

func TestHexOfKnownDigests(t *testing.T) {
	for _, want := range []string{
		strings.Repeat("00", 32),
		strings.Repeat("0f", 32),
		strings.Repeat("ff", 32),
		"000102030405060708090a0b0c0d0e0f101f202f303f404f505f606f707f808f",
		"fedcba98765432100123456789abcdef0a1b2c3d4e5f60718293a4b5c6d7e8f9",
	} {
		if got := digest.Hex(hashOf(want)); got != want {
			t.Errorf("%s, not %s", got, want)
		}
	}
	if got := digest.Hex(digest.Sum([]byte("abc"))); got != "ba7816bf8f01cfea414140de5dae2223b00361a396177a9cb410ff61f20015ad" {
		t.Error("the document's example of Sum:", got)
	}
	if got := digest.Hex(digest.Mac([]byte("key"), []byte(fox))); got != "f7bc83f430538424b13298e6aa6fb143ef4d59a14946175997479dbc2d1a3cd8" {
		t.Error("the document's example of Mac:", got)
	}
}

func TestLinkNeitherChangesNorKeepsWhatItIsHanded(t *testing.T) {
	for _, size := range edgeSizes {
		head, want := api.Hash(mixedRow(32)), mixedRow(size)
		row := roomy(want)
		link := digest.Link(head, row)
		if head != api.Hash(mixedRow(32)) || !untouched(row, want) {
			t.Errorf("%d bytes: what was handed in was changed", size)
		}
		spoil(row)
		if again := digest.Link(head, want); again != link {
			t.Errorf("%d bytes: %x, and later %x", size, link, again)
		}
	}
}

func TestMacNeitherChangesNorKeepsWhatItIsHanded(t *testing.T) {
	for _, keySize := range edgeSizes {
		for _, size := range edgeSizes {
			wantKey, want := mixedRow(keySize), mixedRow(size)
			key, row := roomy(wantKey), roomy(want)
			mac := digest.Mac(key, row)
			if mac != macOfOthers(wantKey, want) {
				t.Errorf("%d and %d bytes with room behind them: %x", keySize, size, mac)
			}
			if !untouched(key, wantKey) || !untouched(row, want) {
				t.Errorf("%d and %d bytes: what was handed in was changed", keySize, size)
			}
			spoil(key)
			spoil(row)
			if again := digest.Mac(wantKey, want); again != mac {
				t.Errorf("%d and %d bytes: %x, and later %x", keySize, size, mac, again)
			}
		}
	}
}

// TestMacOfRowsThatShareMemory: the row is the spare room behind the key, or the key itself.
func TestMacOfRowsThatShareMemory(t *testing.T) {
	all := mixedRow(400)
	for _, size := range edgeSizes {
		shared := bytes.Clone(all)
		if got, want := digest.Mac(shared[:size], shared[size:]), macOfOthers(all[:size], all[size:]); got != want {
			t.Errorf("a key of %d bytes ahead of the row: %x, not %x", size, got, want)
		}
		if got, want := digest.Mac(shared[:size], shared[:size]), macOfOthers(all[:size], all[:size]); got != want {
			t.Errorf("a key of %d bytes that is the row: %x, not %x", size, got, want)
		}
		if !bytes.Equal(shared, all) {
			t.Errorf("a key of %d bytes: what was handed in was changed", size)
		}
	}
}
