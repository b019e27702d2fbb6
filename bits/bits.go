// Package bits is layer 1, bits one behind the other: see shared/doc/01-bits.md.
package bits

import "tallymark/api"

const (
	most  = 64   // no number is wider
	first = 0x80 // the bit of a byte that comes first
)

// Writer writes bits. The zero Writer has none.
type Writer struct {
	bytes []byte
	count int
}

// Bit writes a bit more.
func (w *Writer) Bit(is bool) {
	if w.count%8 == 0 {
		w.bytes = append(w.bytes, 0)
	}
	if is {
		w.bytes[w.count/8] |= first >> (w.count % 8)
	}
	w.count++
}

// Num writes a number in width bits, the highest first.
func (w *Writer) Num(n uint64, width int) api.Errno {
	if !isWidth(width) || n>>width != 0 {
		return api.ErrRange
	}
	for i := range width {
		w.Bit(n>>(width-1-i)&1 == 1)
	}
	return api.OK
}

// Len tells how many bits were written.
func (w *Writer) Len() int { return w.count }

// Bytes tells all bits, the last byte filled up with noughts.
func (w *Writer) Bytes() []byte { return clone(w.bytes) }

// Reader reads bits. None of its bytes is ever changed, so a Reader that is
// assigned to another one goes its own way from there.
type Reader struct {
	bytes []byte
	at    int // the bit that comes next
}

// Read reads from bytes, which are copied: the caller may change its own.
func Read(b ...byte) *Reader { return &Reader{bytes: clone(b)} }

// Bit reads the next bit.
func (r *Reader) Bit() (bool, api.Errno) {
	if r.Left() == 0 {
		return false, api.ErrEnd
	}
	is := r.bytes[r.at/8]&(first>>(r.at%8)) != 0
	r.at++
	return is, api.OK
}

// Num reads a number of width bits; with an error the reader stays where it is.
func (r *Reader) Num(width int) (uint64, api.Errno) {
	if !isWidth(width) {
		return 0, api.ErrRange
	}
	if r.Left() < width {
		return 0, api.ErrEnd
	}
	var n uint64
	for range width {
		n <<= 1
		if is, _ := r.Bit(); is {
			n |= 1
		}
	}
	return n, api.OK
}

// Left tells how many bits are left.
func (r *Reader) Left() int { return len(r.bytes)*8 - r.at }

// Close asks whether nothing is left but what fills up a last byte. It reads
// nothing of it.
func (r *Reader) Close() api.Errno {
	if r.Left() >= 8 {
		return api.ErrForm
	}
	ahead := *r
	if rest, _ := ahead.Num(ahead.Left()); rest != 0 {
		return api.ErrForm
	}
	return api.OK
}

func isWidth(width int) bool { return width >= 0 && width <= most }

func clone(b []byte) []byte {
	c := make([]byte, len(b))
	copy(c, b)
	return c
}
