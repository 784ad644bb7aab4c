package octet_test

import (
	"bytes"
	"math"
	"testing"

	"seneschal/octet"
)

func TestNumTakesWhatNumsLays(t *testing.T) {
	for _, c := range laidNumbers {
		r := octet.NewReader(append(bytes.Clone(c.laid), 7, 8))
		if got := r.Num(); got != c.number || !r.Good() || r.Left() != 2 {
			t.Errorf("% x: %d, not %d; %d left", c.laid, got, c.number, r.Left())
		}
		r = octet.NewReader(c.laid)
		if got := r.Num(); got != c.number || !r.Whole() {
			t.Errorf("% x alone: %d, not %d; %d left", c.laid, got, c.number, r.Left())
		}
	}
}

// badNumbers: bytes that begin with no number, whatever follows (P1.2).
var badNumbers = [][]byte{
	repeated(10, 0x80),
	repeated(10, 0x80, 1),
	repeated(10, 0xff),
	repeated(10, 0xff, 0x7f),
	repeated(11, 0x81),
	repeated(9, 0x80, 0),
	repeated(9, 0x80, 1),
	repeated(9, 0x80, 2),
	repeated(9, 0xff, 1),
	repeated(9, 0x80, 0x7f),
	repeated(9, 0xff, 0x7f),
	repeated(1, 0x80, 0),
	repeated(1, 0x81, 0),
	repeated(1, 0xff, 0),
	repeated(2, 0x81, 0),
	repeated(7, 0xff, 0),
	repeated(8, 0xff, 0),
	repeated(8, 0xff, 0x40),
	repeated(8, 0x80, 0x41),
	repeated(8, 0x80, 0x7f),
	{0x81, 0x80, 0x80, 0x80, 0x80, 0x80, 0x80, 0x80, 0x40},
	{0x80, 0x80, 0x80, 0x80, 0x80, 0x80, 0x80, 0x81, 0x40},
}

func TestNumErrsAtWhatIsNoNumber(t *testing.T) {
	for _, b := range badNumbers {
		r := octet.NewReader(append(bytes.Clone(b), 1, 2, 3))
		if n := r.Num(); n != 0 {
			t.Errorf("% x: %d", b, n)
		}
		mustHaveErred(t, r)
	}
}

func TestNumErrsWhereTheBytesEnd(t *testing.T) {
	for size := range 12 {
		for _, b := range []byte{0x80, 0x81, 0xff} {
			r := octet.NewReader(repeated(size, b))
			if n := r.Num(); n != 0 {
				t.Errorf("%d bytes %x: %d", size, b, n)
			}
			mustHaveErred(t, r)
		}
	}
	for _, c := range laidNumbers {
		r := octet.NewReader(c.laid[:len(c.laid)-1])
		if n := r.Num(); n != 0 {
			t.Errorf("% x without its last byte: %d", c.laid, n)
		}
		mustHaveErred(t, r)
	}
}

func TestZeroBytesThatAreNumbers(t *testing.T) {
	r := octet.NewReader([]byte{0, 0, 0x80, 0x80, 1})
	if r.Num() != 0 || r.Num() != 0 || !r.Good() || r.Left() != 3 || r.Num() != 1<<14 || !r.Whole() {
		t.Error("00 alone is a number, and may stand inside of one as 80")
	}
}

func TestBytesTakesRows(t *testing.T) {
	r := octet.NewReader(append([]byte{0, 1, 0x61, 2, 0, 0xff, 0xac, 2}, repeated(300, 0x5a)...))
	for _, want := range [][]byte{{}, {0x61}, {0, 0xff}, repeated(300, 0x5a)} {
		if got := r.Bytes(); !bytes.Equal(got, want) || !r.Good() {
			t.Errorf("% x, not % x", got, want)
		}
	}
	if !r.Whole() {
		t.Error("something is left:", r.Left())
	}
}

func TestBytesErrs(t *testing.T) {
	cases := [][]byte{
		nil,
		{1},
		{3, 1, 2},
		{0x7f, 1, 2, 3},
		{0x80},
		append(numbersLaid(math.MaxInt32), 1, 2),
		append(numbersLaid(math.MaxUint32), 1, 2),
		append(numbersLaid(greatest), 1, 2),
		append([]byte{0xac, 2}, repeated(299, 0x5a)...),
	}
	for _, b := range append(cases, badNumbers...) {
		r := octet.NewReader(b)
		if got := r.Bytes(); len(got) != 0 {
			t.Errorf("% x: % x", b, got)
		}
		mustHaveErred(t, r)
	}
}

func TestRawTakesSoManyBytes(t *testing.T) {
	r := octet.NewReader([]byte{0x80, 0, 3, 4})
	if len(r.Raw(0)) != 0 || r.Left() != 4 || !bytes.Equal(r.Raw(1), []byte{0x80}) || r.Left() != 3 || !bytes.Equal(r.Raw(3), []byte{0, 3, 4}) || !r.Whole() {
		t.Error("left:", r.Left())
	}
	if len(r.Raw(0)) != 0 || !r.Whole() {
		t.Error("Raw(0) at the end erred")
	}
}

func TestRawErrs(t *testing.T) {
	for _, n := range []int{-1, -3, math.MinInt, 4, 5, greatest, math.MaxInt} {
		r := octet.NewReader([]byte{1, 2, 3})
		if got := r.Raw(n); len(got) != 0 {
			t.Errorf("Raw(%d): % x", n, got)
		}
		mustHaveErred(t, r)
	}
	r := octet.NewReader(nil)
	r.Raw(-1)
	mustHaveErred(t, r)
	r = octet.NewReader(nil)
	r.Raw(1)
	mustHaveErred(t, r)
}

func TestBadErrs(t *testing.T) {
	for _, b := range [][]byte{nil, {1}, {1, 2, 3}} {
		r := octet.NewReader(b)
		r.Bad()
		mustHaveErred(t, r)
		r.Bad()
		mustHaveErred(t, r)
	}
}

func TestErrorInTheMidst(t *testing.T) {
	r := octet.NewReader([]byte{5, 1, 0x61, 0x80, 0, 6, 7})
	if r.Num() != 5 || string(r.Bytes()) != "a" || !r.Good() || r.Whole() || r.Left() != 4 {
		t.Error("ahead of the error:", r.Left())
	}
	if r.Num() != 0 {
		t.Error("80 00 is no number")
	}
	mustHaveErred(t, r)
}

func TestNumsTakesInOrder(t *testing.T) {
	r := octet.NewReader(numbersLaid(1, 300, greatest, 4))
	var a, b, c, d int
	r.Nums()
	r.Nums(&a, &b)
	r.Nums(&c, &d)
	if a != 1 || b != 300 || c != greatest || d != 4 || !r.Whole() {
		t.Error(a, b, c, d)
	}
}

func TestNumsTakesAlsoWhereThePlaceIsNil(t *testing.T) {
	r := octet.NewReader(numbersLaid(1, 300, 3, 400, 5))
	a, b := -1, -1
	r.Nums(nil, &a, nil, nil, &b)
	if a != 300 || b != 5 || !r.Whole() {
		t.Error(a, b, r.Left())
	}
	r = octet.NewReader(numbersLaid(1))
	r.Nums(nil, nil)
	mustHaveErred(t, r)
}

func TestNumsOfOnePlaceTwice(t *testing.T) {
	a := -1
	octet.NewReader(numbersLaid(8, 9)).Nums(&a, &a)
	if a != 9 {
		t.Error(a)
	}
}

func TestNumsGivesNoughtBehindAnError(t *testing.T) {
	a, b, c := -1, -1, -1
	r := octet.NewReader([]byte{7, 0x80, 0, 9})
	r.Nums(&a, &b, &c)
	if a != 7 || b != 0 || c != 0 {
		t.Error(a, b, c)
	}
	mustHaveErred(t, r)
}

func TestLeftGoodWhole(t *testing.T) {
	r := octet.NewReader([]byte{1, 0xac, 2, 1, 0x61, 9})
	for _, c := range []struct {
		take func()
		left int
	}{
		{func() {}, 6},
		{func() { r.Num() }, 5},
		{func() { r.Num() }, 3},
		{func() { r.Bytes() }, 1},
		{func() { r.Raw(1) }, 0},
	} {
		c.take()
		if r.Left() != c.left || !r.Good() || r.Whole() != (c.left == 0) {
			t.Error(c.left, r.Left(), r.Good(), r.Whole())
		}
	}
	for _, r := range []*octet.Reader{octet.NewReader(nil), octet.NewReader([]byte{})} {
		if r.Left() != 0 || !r.Good() || !r.Whole() {
			t.Error("a Reader of nothing", r.Left(), r.Good(), r.Whole())
		}
	}
}

func TestWhatWasLaidIsTakenAsItWas(t *testing.T) {
	var numbers []int
	for shift := range 63 {
		for off := -2; off <= 2; off++ {
			if n := 1<<shift + off; n >= 0 && n <= greatest {
				numbers = append(numbers, n, n*3&(greatest-1))
			}
		}
	}
	var w octet.Writer
	for i, n := range numbers {
		w.Nums(n)
		w.Bytes(repeated(i, byte(n)))
		w.Raw(repeated(i%5, byte(i))...)
	}
	r := octet.NewReader(w.Out())
	for i, n := range numbers {
		if got := r.Num(); got != n {
			t.Fatalf("number %d: %d, not %d", i, got, n)
		}
		if got := r.Bytes(); !bytes.Equal(got, repeated(i, byte(n))) {
			t.Fatalf("row %d: % x", i, got)
		}
		if got := r.Raw(i % 5); !bytes.Equal(got, repeated(i%5, byte(i))) {
			t.Fatalf("bytes %d: % x", i, got)
		}
	}
	if !r.Whole() {
		t.Error("left:", r.Left())
	}
}

// TestWhatIsTakenIsLaidAlike: a number has one form alone, so what is taken as a number is laid again just so.
func TestWhatIsTakenIsLaidAlike(t *testing.T) {
	edges := []byte{0, 1, 0x3f, 0x7f, 0x80, 0x81, 0xff}
	row := make([]byte, 5)
	for v := range 7 * 7 * 7 * 7 * 7 {
		for i := range row {
			row[i] = edges[v%7]
			v /= 7
		}
		r := octet.NewReader(row)
		n := r.Num()
		if taken := row[:len(row)-r.Left()]; r.Good() && !bytes.Equal(numbersLaid(n), taken) {
			t.Fatalf("% x is taken as %d, which is laid as % x", taken, n, numbersLaid(n))
		}
	}
}

func TestReaderNeitherChangesNorKeepsWhatItIsHanded(t *testing.T) {
	b := roomy("\x05\x02abxyz")
	r := octet.NewReader(b)
	if r.Num() != 5 || string(r.Bytes()) != "ab" || !untouched(b, "\x05\x02abxyz") {
		t.Errorf("%q", b[:cap(b)])
	}
	overwrite(b)
	if string(r.Raw(3)) != "xyz" || !r.Whole() {
		t.Error("what was handed in is kept")
	}
	r = octet.NewReader(append(make([]byte, 0, 4), 1, 2))
	if r.Left() != 2 || len(r.Raw(4)) != 0 || r.Good() {
		t.Error("the spare room is taken too")
	}
}

func TestReaderAnswersNewMemory(t *testing.T) {
	r := octet.NewReader([]byte("\x02ab\x02cdefgh"))
	first := r.Bytes()
	overwrite(first)
	second := r.Bytes()
	third := r.Raw(2)
	overwrite(second)
	_ = append(second, "....."...)
	if string(third) != "ef" {
		t.Errorf("two answers share memory: %q", third)
	}
	overwrite(third)
	if fourth := r.Raw(2); string(fourth) != "gh" || !bytes.Equal(first, []byte{0xee, 0xee}) {
		t.Errorf("%q %q", fourth, first)
	}
}

func TestReadersOfOneRowAreApart(t *testing.T) {
	b := []byte{1, 2, 3}
	one, other := octet.NewReader(b), octet.NewReader(b)
	overwrite(one.Raw(3))
	one.Bad()
	if other.Num() != 1 || other.Num() != 2 || other.Num() != 3 || !other.Whole() {
		t.Error("one Reader is seen by another")
	}
}

func TestNilReader(t *testing.T) {
	var r *octet.Reader
	r.Bad()
	mustHaveErred(t, r)
	r.Nums()
	r.Nums(nil)
	mustHaveErred(t, r)
}

// mustHaveErred: what is told behind the first error (P1.2), which is also all that a nil Reader tells (P1.4).
func mustHaveErred(t *testing.T, r *octet.Reader) {
	t.Helper()
	state := func(when string) {
		t.Helper()
		if r.Good() || r.Whole() || r.Left() != 0 {
			t.Error(when, r.Good(), r.Whole(), r.Left())
		}
	}
	state("at once")
	if n := r.Num(); n != 0 {
		t.Error("Num:", n)
	}
	a, b := -1, -1
	if r.Nums(&a, nil, &b); a != 0 || b != 0 {
		t.Error("Nums:", a, b)
	}
	if p := r.Bytes(); len(p) != 0 {
		t.Error("Bytes:", p)
	}
	for _, n := range []int{0, 1, -1, math.MaxInt} {
		if p := r.Raw(n); len(p) != 0 {
			t.Error("Raw:", n, p)
		}
	}
	state("later")
}
