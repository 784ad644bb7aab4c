// Package octet is numbers as bytes: see DOC.md, chapter 1.
package octet

const (
	greatest  = 1 << 62    // no number above it is laid or taken
	places    = 7          // binary digits of a number in one byte
	more      = 0x80       // beside the digits: another byte follows
	mostBytes = 9          // of a number: nine times seven digits hold the greatest
	turned    = 0xedb88320 // the polynomial of Sum, its digits turned round
)

// Writer is bytes that are laid one behind the other.
type Writer struct {
	laid []byte
}

// Nums lays numbers from 0 on.
func (w *Writer) Nums(v ...int) {
	if w == nil {
		return
	}
	for _, n := range v {
		w.laid = appendNumber(w.laid, n)
	}
}

// Bytes lays rows of bytes, each with its length.
func (w *Writer) Bytes(p ...[]byte) {
	for _, row := range p {
		w.Nums(len(row))
		w.Raw(row...)
	}
}

// Raw lays bytes as they are.
func (w *Writer) Raw(p ...byte) {
	if w == nil {
		return
	}
	w.laid = append(w.laid, p...)
}

// Out is what was laid.
func (w *Writer) Out() []byte {
	if w == nil {
		return nil
	}
	return Join(w.laid)
}

func appendNumber(to []byte, n int) []byte {
	n = min(max(n, 0), greatest)
	for n >= more {
		to = append(to, byte(n%more)|more)
		n >>= places
	}
	return append(to, byte(n))
}

// Reader is bytes that are taken one by one; the first error stays.
type Reader struct {
	rest []byte // nothing once it erred, so that all that is taken then is empty
	bad  bool
}

// NewReader takes from bytes.
func NewReader(p []byte) *Reader {
	return &Reader{rest: Join(p)}
}

// Num takes a number.
func (r *Reader) Num() int {
	if r == nil {
		return 0
	}
	n, size := firstNumber(r.rest)
	if size == 0 {
		r.Bad()
		return 0
	}
	r.rest = r.rest[size:]
	return n
}

// Nums takes numbers into places.
func (r *Reader) Nums(to ...*int) {
	for _, place := range to {
		n := r.Num()
		if place != nil {
			*place = n
		}
	}
}

// Bytes takes a row of bytes.
func (r *Reader) Bytes() []byte {
	return r.Raw(r.Num())
}

// Raw takes so many bytes.
func (r *Reader) Raw(n int) []byte {
	if r == nil {
		return nil
	}
	if n < 0 || n > len(r.rest) {
		r.Bad()
		return nil
	}
	row := Join(r.rest[:n])
	r.rest = r.rest[n:]
	return row
}

// Left is how many bytes are left.
func (r *Reader) Left() int {
	if r == nil {
		return 0
	}
	return len(r.rest)
}

// Bad makes it err, if it does not yet.
func (r *Reader) Bad() {
	if r == nil {
		return
	}
	r.rest, r.bad = nil, true
}

// Good tells whether nothing erred.
func (r *Reader) Good() bool {
	return r != nil && !r.bad
}

// Whole tells whether nothing erred, and nothing is left.
func (r *Reader) Whole() bool {
	return r.Good() && r.Left() == 0
}

// firstNumber is the number at the head of p and how many bytes it has; none, if p does not begin with one.
func firstNumber(p []byte) (n, size int) {
	// A byte behind mostBytes is needless or goes beyond the greatest: in no case is there a number, so the digits never outgrow an int.
	for i, b := range p[:min(len(p), mostBytes)] {
		n |= int(b%more) << (places * i)
		if b >= more {
			continue
		}
		if i > 0 && b == 0 || n > greatest {
			return 0, 0
		}
		return n, i + 1
	}
	return 0, 0
}

// Join is rows of bytes, one behind the other.
func Join(p ...[]byte) []byte {
	size := 0
	for _, row := range p {
		size += len(row)
	}
	all := make([]byte, 0, size)
	for _, row := range p {
		all = append(all, row...)
	}
	return all
}

// Sum is the check sum of rows of bytes, one behind the other.
func Sum(p ...[]byte) uint32 {
	sum := ^uint32(0)
	for _, row := range p {
		for _, b := range row {
			sum = sumByte(sum, b)
		}
	}
	return ^sum
}

func sumByte(sum uint32, b byte) uint32 {
	sum ^= uint32(b)
	for range 8 {
		low := sum & 1
		sum = sum>>1 ^ turned*low
	}
	return sum
}
