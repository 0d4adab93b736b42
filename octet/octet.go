// Package octet is numbers as bytes: see DOC.md, chapter 1.
package octet

// most is the greatest number that is laid.
const most = 1 << 62

// longest is how many bytes the greatest number takes: a number that goes on behind them is none.
const longest = 9

// Writer is bytes that are laid one behind the other.
type Writer struct {
	laid []byte
}

// Nums lays numbers from 0 on.
func (w *Writer) Nums(v ...int) {
	if w == nil {
		return
	}
	for _, n := range v {
		w.num(n)
	}
}

func (w *Writer) num(n int) {
	rest := uint64(min(max(n, 0), most))
	for rest > 0x7f {
		w.laid = append(w.laid, byte(rest)|0x80)
		rest >>= 7
	}
	w.laid = append(w.laid, byte(rest))
}

// Bytes lays rows of bytes, each with its length.
func (w *Writer) Bytes(p ...[]byte) {
	if w == nil {
		return
	}
	for _, row := range p {
		w.num(len(row))
		w.laid = append(w.laid, row...)
	}
}

// Raw lays bytes as they are.
func (w *Writer) Raw(p ...byte) {
	if w == nil {
		return
	}
	w.laid = append(w.laid, p...)
}

// Out is what was laid.
func (w *Writer) Out() []byte {
	if w == nil {
		return nil
	}
	return own(w.laid)
}

// Reader is bytes that are taken one by one; the first error stays.
type Reader struct {
	rest []byte
	bad  bool
}

// NewReader takes from bytes.
func NewReader(p []byte) *Reader {
	return &Reader{rest: own(p)}
}

// Num takes a number.
func (r *Reader) Num() int {
	if !r.Good() {
		return 0
	}
	var n uint64
	for i := range min(longest, len(r.rest)) {
		b := r.rest[i]
		n |= uint64(b&0x7f) << (7 * i)
		if b > 0x7f {
			continue
		}
		if i > 0 && b == 0 || n > most {
			break
		}
		r.rest = r.rest[i+1:]
		return int(n)
	}
	r.Bad()
	return 0
}

// Nums takes numbers into places.
func (r *Reader) Nums(to ...*int) {
	for _, place := range to {
		n := r.Num()
		if place != nil {
			*place = n
		}
	}
}

// Bytes takes a row of bytes.
func (r *Reader) Bytes() []byte {
	return r.Raw(r.Num())
}

// Raw takes so many bytes.
func (r *Reader) Raw(n int) []byte {
	if !r.Good() {
		return nil
	}
	if n < 0 || n > len(r.rest) {
		r.Bad()
		return nil
	}
	out := own(r.rest[:n])
	r.rest = r.rest[n:]
	return out
}

// Left is how many bytes are left.
func (r *Reader) Left() int {
	if !r.Good() {
		return 0
	}
	return len(r.rest)
}

// Bad makes it err, if it does not yet.
func (r *Reader) Bad() {
	if r == nil {
		return
	}
	r.bad = true
	r.rest = nil
}

// Good tells whether nothing erred.
func (r *Reader) Good() bool { return r != nil && !r.bad }

// Whole tells whether nothing erred, and nothing is left.
func (r *Reader) Whole() bool { return r.Good() && len(r.rest) == 0 }

// Join is rows of bytes, one behind the other.
func Join(p ...[]byte) []byte {
	n := 0
	for _, row := range p {
		n += len(row)
	}
	out := make([]byte, 0, n)
	for _, row := range p {
		out = append(out, row...)
	}
	return out
}

// nibbles is what four digits do to a sum: half a byte at a time keeps the table short.
var nibbles = [16]uint32{
	0x00000000, 0x1db71064, 0x3b6e20c8, 0x26d930ac,
	0x76dc4190, 0x6b6b51f4, 0x4db26158, 0x5005713c,
	0xedb88320, 0xf00f9344, 0xd6d6a3e8, 0xcb61b38c,
	0x9b64c2b0, 0x86d3d2d4, 0xa00ae278, 0xbdbdf21c,
}

// Sum is the check sum of rows of bytes, one behind the other.
func Sum(p ...[]byte) uint32 {
	s := ^uint32(0)
	for _, row := range p {
		for _, b := range row {
			s ^= uint32(b)
			s = s>>4 ^ nibbles[s&15]
			s = s>>4 ^ nibbles[s&15]
		}
	}
	return ^s
}

// own is bytes in memory of their own, without spare room.
func own(p []byte) []byte {
	out := make([]byte, len(p))
	copy(out, p)
	return out
}
