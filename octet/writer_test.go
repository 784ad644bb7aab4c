package octet_test

import (
	"bytes"
	"math"
	"slices"
	"testing"

	"seneschal/octet"
)

const greatest = 1 << 62

// laidNumbers: numbers at the edges of one byte and of several, and what is laid of each (P1.1).
var laidNumbers = []struct {
	number int
	laid   []byte
}{
	{0, []byte{0}},
	{1, []byte{1}},
	{0x7f, []byte{0x7f}},
	{0x80, []byte{0x80, 1}},
	{0xff, []byte{0xff, 1}},
	{300, []byte{0xac, 2}},
	{1<<14 - 1, []byte{0xff, 0x7f}},
	{1 << 14, []byte{0x80, 0x80, 1}},
	{1<<21 - 1, []byte{0xff, 0xff, 0x7f}},
	{1 << 21, []byte{0x80, 0x80, 0x80, 1}},
	{1<<28 - 1, []byte{0xff, 0xff, 0xff, 0x7f}},
	{1 << 28, []byte{0x80, 0x80, 0x80, 0x80, 1}},
	{1<<35 - 1, []byte{0xff, 0xff, 0xff, 0xff, 0x7f}},
	{1 << 35, []byte{0x80, 0x80, 0x80, 0x80, 0x80, 1}},
	{1<<42 - 1, []byte{0xff, 0xff, 0xff, 0xff, 0xff, 0x7f}},
	{1 << 42, []byte{0x80, 0x80, 0x80, 0x80, 0x80, 0x80, 1}},
	{1<<49 - 1, []byte{0xff, 0xff, 0xff, 0xff, 0xff, 0xff, 0x7f}},
	{1 << 49, []byte{0x80, 0x80, 0x80, 0x80, 0x80, 0x80, 0x80, 1}},
	{1<<56 - 1, []byte{0xff, 0xff, 0xff, 0xff, 0xff, 0xff, 0xff, 0x7f}},
	{1 << 56, []byte{0x80, 0x80, 0x80, 0x80, 0x80, 0x80, 0x80, 0x80, 1}},
	{greatest - 1, []byte{0xff, 0xff, 0xff, 0xff, 0xff, 0xff, 0xff, 0xff, 0x3f}},
	{greatest, []byte{0x80, 0x80, 0x80, 0x80, 0x80, 0x80, 0x80, 0x80, 0x40}},
}

// beyondNumbers: numbers that are laid as the nearest that can be (P1.1).
var beyondNumbers = []struct{ number, as int }{
	{-1, 0},
	{-0x80, 0},
	{math.MinInt, 0},
	{greatest + 1, greatest},
	{math.MaxInt, greatest},
}

func numbersLaid(v ...int) []byte {
	var w octet.Writer
	w.Nums(v...)
	return w.Out()
}

// repeated is n bytes of one kind, and last behind them.
func repeated(n int, b byte, last ...byte) []byte {
	return append(bytes.Repeat([]byte{b}, n), last...)
}

func TestNumsLaysSevenDigitsAByte(t *testing.T) {
	for _, c := range laidNumbers {
		if got := numbersLaid(c.number); !bytes.Equal(got, c.laid) {
			t.Errorf("Nums(%d) lays % x, not % x", c.number, got, c.laid)
		}
	}
}

func TestNumsLaysTheNearestThatCanBe(t *testing.T) {
	for _, c := range beyondNumbers {
		if got, want := numbersLaid(c.number), numbersLaid(c.as); !bytes.Equal(got, want) {
			t.Errorf("Nums(%d) lays % x, not % x", c.number, got, want)
		}
	}
}

func TestNumsLaysOneBehindTheOther(t *testing.T) {
	var one, all octet.Writer
	var numbers []int
	var want []byte
	for _, c := range laidNumbers {
		one.Nums(c.number)
		numbers = append(numbers, c.number)
		want = append(want, c.laid...)
	}
	all.Nums(numbers...)
	if !bytes.Equal(one.Out(), want) || !bytes.Equal(all.Out(), want) {
		t.Errorf("one by one % x, all at once % x, not % x", one.Out(), all.Out(), want)
	}
	all.Nums()
	if !bytes.Equal(all.Out(), want) {
		t.Errorf("Nums of no number lays something: % x", all.Out())
	}
}

func TestBytesLaysTheLengthAndTheRow(t *testing.T) {
	long := repeated(300, 0x5a)
	for _, c := range []struct {
		name string
		rows [][]byte
		laid []byte
	}{
		{"no row", nil, nil},
		{"a nil row", [][]byte{nil}, []byte{0}},
		{"an empty row", [][]byte{{}}, []byte{0}},
		{"nil and empty rows", [][]byte{nil, {}, nil}, []byte{0, 0, 0}},
		{"one byte", [][]byte{{0x61}}, []byte{1, 0x61}},
		{"several rows", [][]byte{{0xff, 0x80}, nil, {0}}, []byte{2, 0xff, 0x80, 0, 1, 0}},
		{"a row of 127", [][]byte{repeated(127, 9)}, append([]byte{0x7f}, repeated(127, 9)...)},
		{"a row of 128", [][]byte{repeated(128, 9)}, append([]byte{0x80, 1}, repeated(128, 9)...)},
		{"a row of 300", [][]byte{long}, append([]byte{0xac, 2}, long...)},
	} {
		var w octet.Writer
		w.Bytes(c.rows...)
		if got := w.Out(); !bytes.Equal(got, c.laid) {
			t.Errorf("%s: % x, not % x", c.name, got, c.laid)
		}
	}
}

func TestRawLaysBytesAsTheyAre(t *testing.T) {
	var w octet.Writer
	w.Raw()
	w.Raw([]byte(nil)...)
	if len(w.Out()) != 0 {
		t.Errorf("Raw of no byte lays % x", w.Out())
	}
	want := make([]byte, 256)
	for i := range want {
		want[i] = byte(i)
	}
	w.Raw(want[:100]...)
	w.Raw(want[100])
	w.Raw(want[101:]...)
	if !bytes.Equal(w.Out(), want) {
		t.Errorf("% x", w.Out())
	}
}

func TestWriterLaysBehindWhatWasLaid(t *testing.T) {
	var w octet.Writer
	w.Nums(1, 300)
	w.Bytes([]byte{0x61})
	if got := w.Out(); !bytes.Equal(got, []byte{1, 0xac, 2, 1, 0x61}) {
		t.Errorf("the document's example: % x", got)
	}
	w.Raw(0x80, 0)
	w.Bytes(nil, []byte("bc"))
	w.Nums(0x80)
	if got := w.Out(); !bytes.Equal(got, []byte{1, 0xac, 2, 1, 0x61, 0x80, 0, 0, 2, 0x62, 0x63, 0x80, 1}) {
		t.Errorf("% x", got)
	}
}

func TestZeroWriterIsEmpty(t *testing.T) {
	var w octet.Writer
	if len(w.Out()) != 0 || len(new(octet.Writer).Out()) != 0 {
		t.Error("an empty Writer has bytes")
	}
}

func TestOutIsNewMemoryEachTime(t *testing.T) {
	var w octet.Writer
	w.Raw(1, 2, 3)
	first, second := w.Out(), w.Out()
	overwrite(first)
	if !bytes.Equal(second, []byte{1, 2, 3}) || !bytes.Equal(w.Out(), []byte{1, 2, 3}) {
		t.Errorf("an answer shares memory: % x, % x", second, w.Out())
	}
	overwrite(second)
	w.Raw(4, 5, 6, 7, 8)
	if !bytes.Equal(w.Out(), []byte{1, 2, 3, 4, 5, 6, 7, 8}) {
		t.Errorf("what was laid later follows an answer: % x", w.Out())
	}
	third := w.Out()
	w.Raw(9)
	if !bytes.Equal(third, []byte{1, 2, 3, 4, 5, 6, 7, 8}) {
		t.Errorf("an answer changed later: % x", third)
	}
}

func TestWriterNeitherChangesNorKeepsWhatItIsHanded(t *testing.T) {
	numbers := append(make([]int, 0, 8), -7, math.MaxInt, 5)
	row := roomy("row")
	raw := roomy("raw")
	rows := append(make([][]byte, 0, 4), row, nil)
	var w octet.Writer
	w.Raw(raw...)
	w.Nums(numbers...)
	w.Bytes(rows...)
	want := w.Out()
	if !slices.Equal(numbers[:8], []int{-7, math.MaxInt, 5, 0, 0, 0, 0, 0}) {
		t.Error("numbers changed:", numbers[:8])
	}
	if !untouched(row, "row") || !untouched(raw, "raw") {
		t.Errorf("rows changed: %q, %q", row[:cap(row)], raw[:cap(raw)])
	}
	if len(rows[0]) != 3 || rows[1] != nil || rows[:4][2] != nil || rows[:4][3] != nil {
		t.Error("the list of rows changed")
	}
	overwrite(row)
	overwrite(raw)
	if !bytes.Equal(w.Out(), want) {
		t.Error("what was handed in is kept")
	}
	w.Raw(1, 2, 3)
	if raw[0] != 0xee || raw[:cap(raw)][3] != 0xee {
		t.Error("what was handed in is written to later")
	}
}

func TestNilWriterLaysNothing(t *testing.T) {
	var w *octet.Writer
	w.Nums()
	w.Nums(1, 2)
	w.Bytes()
	w.Bytes(nil, []byte("a"))
	w.Raw()
	w.Raw(1, 2)
	if len(w.Out()) != 0 {
		t.Errorf("% x", w.Out())
	}
}

// roomy is a row with spare room behind its end.
func roomy(s string) []byte {
	return append(make([]byte, 0, len(s)+16), s...)
}

// untouched tells whether p is still what roomy made of s, its spare room too.
func untouched(p []byte, s string) bool {
	return bytes.Equal(p[:cap(p)], append([]byte(s), make([]byte, 16)...))
}

// overwrite spoils a row and the spare room behind it.
func overwrite(p []byte) {
	for i := range p[:cap(p)] {
		p[:cap(p)][i] = 0xee
	}
}
