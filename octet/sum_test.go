package octet_test

import (
	"bytes"
	"hash/crc32"
	"testing"

	"seneschal/octet"
)

// joinedRows: rows, what Join makes of them, and what Sum makes of that (P1.3).
var joinedRows = []struct {
	name   string
	rows   [][]byte
	joined string
	sum    uint32
}{
	{"no row", nil, "", 0},
	{"an empty row", [][]byte{{}}, "", 0},
	{"a nil row", [][]byte{nil}, "", 0},
	{"several empty rows", [][]byte{nil, {}, nil}, "", 0},
	{"the byte 00", [][]byte{{0}}, "\x00", 0xd202ef8d},
	{"the byte ff", [][]byte{{0xff}}, "\xff", 0xff000000},
	{"a", [][]byte{[]byte("a")}, "a", 0xe8b7be43},
	{"abc", [][]byte{[]byte("abc")}, "abc", 0x352441c2},
	{"the document's example", [][]byte{[]byte("1234"), []byte("56789")}, "123456789", 0xcbf43926},
	{"in one row", [][]byte{[]byte("123456789")}, "123456789", 0xcbf43926},
	{"with empty rows", [][]byte{nil, []byte("123"), {}, []byte("4567"), []byte("89"), nil}, "123456789", 0xcbf43926},
}

func TestJoin(t *testing.T) {
	for _, c := range joinedRows {
		if got := octet.Join(c.rows...); string(got) != c.joined {
			t.Errorf("%s: %q, not %q", c.name, got, c.joined)
		}
	}
}

func TestSum(t *testing.T) {
	for _, c := range joinedRows {
		if got := octet.Sum(c.rows...); got != c.sum {
			t.Errorf("%s: %08x, not %08x", c.name, got, c.sum)
		}
	}
}

func TestSumIsThatOfJoin(t *testing.T) {
	var all []byte
	for i := range 520 {
		all = append(all, byte(i*i+i>>3))
		want := crc32.ChecksumIEEE(all)
		for _, cut := range []int{0, 1, i / 3, i / 2, i, i + 1} {
			rows := [][]byte{all[:cut], nil, all[cut:]}
			if got := octet.Sum(rows...); got != want {
				t.Fatalf("%d bytes cut at %d: %08x, not %08x", i+1, cut, got, want)
			}
			if !bytes.Equal(octet.Join(rows...), all) {
				t.Fatalf("%d bytes cut at %d are joined to others", i+1, cut)
			}
		}
	}
}

func TestSumTellsOneByteFromAnother(t *testing.T) {
	for _, size := range []int{1, 2, 3, 4, 5, 8, 9, 33} {
		row := make([]byte, size)
		for i := range row {
			row[i] = byte(i*37 + size)
		}
		sum := octet.Sum(row)
		for at := range row {
			for change := 1; change < 256; change++ {
				other := bytes.Clone(row)
				other[at] ^= byte(change)
				if octet.Sum(other) == sum {
					t.Fatalf("% x and % x have one Sum", row, other)
				}
			}
		}
	}
}

func TestJoinAnswersNewMemory(t *testing.T) {
	a, b := roomy("ab"), roomy("cd")
	rows := append(make([][]byte, 0, 4), a, b)
	one, both := octet.Join(a), octet.Join(rows...)
	if !untouched(a, "ab") || !untouched(b, "cd") || rows[:4][2] != nil {
		t.Error("Join changed what it was handed")
	}
	overwrite(a)
	overwrite(b)
	if string(one) != "ab" || string(both) != "abcd" {
		t.Errorf("Join keeps what it was handed: %q, %q", one, both)
	}
	a = roomy("ab")
	one, again := octet.Join(a, nil), octet.Join(a, nil)
	overwrite(one)
	_ = append(one[:0], "...."...)
	if !untouched(a, "ab") || string(again) != "ab" {
		t.Errorf("an answer shares memory: %q, %q", a, again)
	}
}

func TestSumNeitherChangesNorKeepsWhatItIsHanded(t *testing.T) {
	a, b := roomy("1234"), roomy("56789")
	if octet.Sum(a, b) != 0xcbf43926 || !untouched(a, "1234") || !untouched(b, "56789") {
		t.Errorf("%q, %q", a[:cap(a)], b[:cap(b)])
	}
	overwrite(a)
	if octet.Sum() != 0 || octet.Sum([]byte("123456789")) != 0xcbf43926 {
		t.Error("a Sum hangs on those ahead of it")
	}
}
