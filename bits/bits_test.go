package bits_test

import (
	"bytes"
	"math"
	"math/rand"
	"testing"

	"tallymark/api"
	"tallymark/bits"
)

// badWidths are widths that no number has.
var badWidths = []int{-1, 65, -64, 128, math.MinInt, math.MaxInt}

// P1.1: the example of the chapter.
func TestWriterExample(t *testing.T) {
	var w bits.Writer
	if e := w.Num(5, 3); e != api.OK {
		t.Fatalf("Num(5, 3): %d", e)
	}
	w.Bit(true)
	if got := w.Bytes(); !bytes.Equal(got, []byte{0b10110000}) || w.Len() != 4 {
		t.Errorf("bytes %08b, %d bits", got, w.Len())
	}
}

// P1.1: the zero Writer has none.
func TestWriterZero(t *testing.T) {
	var w bits.Writer
	if w.Len() != 0 || len(w.Bytes()) != 0 {
		t.Errorf("%d bits, bytes %v", w.Len(), w.Bytes())
	}
}

// P1.1: the highest bit of a number is first, and so is that of a byte.
func TestWriterOrder(t *testing.T) {
	var w bits.Writer
	for _, is := range []bool{true, false, false, false, false, false, false, false, false, true} {
		w.Bit(is)
	}
	w.Num(0x123456789abcdef0, 64)
	want := []byte{0x80, 0x44, 0x8d, 0x15, 0x9e, 0x26, 0xaf, 0x37, 0xbc, 0x00}
	if got := w.Bytes(); !bytes.Equal(got, want) || w.Len() != 74 {
		t.Errorf("bytes %x, %d bits", got, w.Len())
	}
}

// P1.1: a whole byte isn't filled up with another one.
func TestWriterWholeBytes(t *testing.T) {
	var w bits.Writer
	for i := 1; i <= 64; i++ {
		w.Bit(true)
		b := w.Bytes()
		if w.Len() != i || len(b) != (i+7)/8 {
			t.Errorf("%d bits: Len %d, %d bytes", i, w.Len(), len(b))
		}
		if last := byte(0xff << (len(b)*8 - i)); b[len(b)-1] != last {
			t.Errorf("%d bits: last byte %08b", i, b[len(b)-1])
		}
	}
}

// P1.1: the widths 0 and 64, and the greatest number of each width.
func TestWriterWidths(t *testing.T) {
	for width := 0; width <= 64; width++ {
		var w bits.Writer
		greatest := uint64(math.MaxUint64) >> (64 - width)
		if e := w.Num(greatest, width); e != api.OK || w.Len() != width {
			t.Errorf("Num(%d, %d): %d, %d bits", greatest, width, e, w.Len())
		}
		if e := w.Num(0, width); e != api.OK || w.Len() != 2*width {
			t.Errorf("Num(0, %d): %d, %d bits", width, e, w.Len())
		}
	}
}

// P1.1: what doesn't fit, or has another width, isn't written.
func TestWriterRange(t *testing.T) {
	var w bits.Writer
	w.Num(5, 3)
	refused := func(n uint64, width int) {
		if e := w.Num(n, width); e != api.ErrRange {
			t.Errorf("Num(%d, %d): %d", n, width, e)
		}
		if got := w.Bytes(); !bytes.Equal(got, []byte{0b10100000}) || w.Len() != 3 {
			t.Fatalf("Num(%d, %d) has written: %08b, %d bits", n, width, got, w.Len())
		}
	}
	for _, width := range badWidths {
		refused(0, width)
		refused(1, width)
		refused(math.MaxUint64, width)
	}
	for width := 0; width < 64; width++ {
		refused(1<<width, width)
		refused(math.MaxUint64, width)
	}
}

// P1.1, rule 5: Bytes is new memory, whatever the caller does to it.
func TestWriterBytesAreNew(t *testing.T) {
	var w bits.Writer
	w.Num(0xabc, 12)
	b := w.Bytes()
	again := w.Bytes()
	b[0], b[1] = 1, 2
	_ = append(b[:1], 3, 4, 5)
	if !bytes.Equal(again, []byte{0xab, 0xc0}) || !bytes.Equal(w.Bytes(), again) {
		t.Errorf("bytes %x, %x", again, w.Bytes())
	}
	w.Num(0xd, 4)
	if !bytes.Equal(again, []byte{0xab, 0xc0}) || !bytes.Equal(w.Bytes(), []byte{0xab, 0xcd}) {
		t.Errorf("behind Num: bytes %x, %x", again, w.Bytes())
	}
}

// P1.2: bits come as they stand, and are counted.
func TestReaderBits(t *testing.T) {
	r := bits.Read(0xb0, 0x01)
	for i, want := range []bool{true, false, true, true, false, false, false, false, false, false, false, false, false, false, false, true} {
		if r.Left() != 16-i {
			t.Errorf("bit %d: %d left", i, r.Left())
		}
		if is, e := r.Bit(); is != want || e != api.OK {
			t.Errorf("bit %d: %v, %d", i, is, e)
		}
	}
	for range 3 {
		if is, e := r.Bit(); is || e != api.ErrEnd || r.Left() != 0 {
			t.Errorf("at the end: %v, %d, %d left", is, e, r.Left())
		}
	}
}

// P1.2: numbers of all widths, the width 0 at the end, too.
func TestReaderNums(t *testing.T) {
	r := bits.Read(0x80, 0x44, 0x8d, 0x15, 0x9e, 0x26, 0xaf, 0x37, 0xbc, 0x00)
	for _, x := range []struct {
		width int
		want  uint64
		left  int
	}{{0, 0, 80}, {1, 1, 79}, {9, 1, 70}, {64, 0x123456789abcdef0, 6}, {0, 0, 6}, {6, 0, 0}, {0, 0, 0}} {
		if n, e := r.Num(x.width); n != x.want || e != api.OK || r.Left() != x.left {
			t.Errorf("Num(%d): %x, %d, %d left", x.width, n, e, r.Left())
		}
	}
}

// P1.2: fewer bits than are asked: the reader stays where it is.
func TestReaderEnd(t *testing.T) {
	for skip := 0; skip <= 16; skip++ {
		r := bits.Read(0xff, 0xff)
		r.Num(skip)
		for width := 17 - skip; width <= 64; width++ {
			if n, e := r.Num(width); n != 0 || e != api.ErrEnd || r.Left() != 16-skip {
				t.Fatalf("Num(%d) of %d bits: %d, %d, %d left", width, 16-skip, n, e, r.Left())
			}
		}
		if n, e := r.Num(16 - skip); n != 1<<(16-skip)-1 || e != api.OK {
			t.Errorf("the last %d bits: %b, %d", 16-skip, n, e)
		}
	}
}

// P1.2: another width is ErrRange, ahead of ErrEnd; the reader stays.
func TestReaderRange(t *testing.T) {
	for _, b := range [][]byte{nil, {0xff}, bytes.Repeat([]byte{0xff}, 20)} {
		r := bits.Read(b...)
		for _, width := range badWidths {
			if n, e := r.Num(width); n != 0 || e != api.ErrRange || r.Left() != len(b)*8 {
				t.Errorf("Num(%d) of %d bytes: %d, %d, %d left", width, len(b), n, e, r.Left())
			}
		}
	}
}

// P1.2: Close asks for less than 8 noughts, and reads nothing.
func TestReaderClose(t *testing.T) {
	for _, x := range []struct {
		b    []byte
		skip int
		want api.Errno
	}{
		{nil, 0, api.OK},
		{[]byte{}, 0, api.OK},
		{[]byte{0}, 0, api.ErrForm},
		{[]byte{0}, 1, api.OK},
		{[]byte{0x80}, 1, api.OK},
		{[]byte{0x01}, 1, api.ErrForm},
		{[]byte{0x40}, 1, api.ErrForm},
		{[]byte{0x01}, 7, api.ErrForm},
		{[]byte{0x01}, 8, api.OK},
		{[]byte{0, 0}, 0, api.ErrForm},
		{[]byte{0, 0}, 8, api.ErrForm},
		{[]byte{0, 0}, 9, api.OK},
		{[]byte{0, 0, 0}, 1, api.ErrForm},
		{make([]byte, 20), 0, api.ErrForm},
		{bytes.Repeat([]byte{0xff}, 20), 3, api.ErrForm},
	} {
		r := bits.Read(x.b...)
		r.Num(x.skip)
		for range 2 {
			if e := r.Close(); e != x.want || r.Left() != len(x.b)*8-x.skip {
				t.Errorf("Close of %x behind %d bits: %d, %d left", x.b, x.skip, e, r.Left())
			}
		}
	}
}

// P1.2: a reader goes on behind Close.
func TestReaderBehindClose(t *testing.T) {
	r := bits.Read(0x05)
	r.Num(4)
	r.Close()
	if n, e := r.Num(4); n != 5 || e != api.OK || r.Close() != api.OK {
		t.Errorf("%d, %d", n, e)
	}
}

// P1.2, rule 5: what the caller does to its bytes isn't read, nor are they
// changed, their spare room neither.
func TestReadCopies(t *testing.T) {
	room := []byte{0xab, 0xcd, 0xef, 0x12}
	r := bits.Read(room[:2]...)
	r.Num(4)
	if !bytes.Equal(room, []byte{0xab, 0xcd, 0xef, 0x12}) {
		t.Errorf("changed: %x", room)
	}
	clear(room)
	if n, e := r.Num(12); n != 0xbcd || e != api.OK || r.Left() != 0 {
		t.Errorf("%x, %d, %d left", n, e, r.Left())
	}
}

// P1.3: what was written is read back, at every width and at every place.
func TestReadBack(t *testing.T) {
	type part struct {
		n     uint64
		width int // of a bit -1
	}
	chance := rand.New(rand.NewSource(1))
	for round := range 300 {
		var w bits.Writer
		var parts []part
		count := 0
		for range round {
			p := part{width: chance.Intn(66) - 1}
			if p.width < 0 {
				p.n = chance.Uint64() % 2
				w.Bit(p.n == 1)
				count++
			} else {
				p.n = chance.Uint64() >> (64 - p.width)
				w.Num(p.n, p.width)
				count += p.width
			}
			parts = append(parts, p)
		}
		r := bits.Read(w.Bytes()...)
		if w.Len() != count || r.Left() != (count+7)/8*8 {
			t.Fatalf("%d bits: Len %d, Left %d", count, w.Len(), r.Left())
		}
		for _, p := range parts {
			n, e := uint64(0), api.OK
			if p.width >= 0 {
				n, e = r.Num(p.width)
			} else if is, f := r.Bit(); is {
				n, e = 1, f
			}
			if n != p.n || e != api.OK {
				t.Fatalf("%+v: %d, %d", p, n, e)
			}
		}
		if e := r.Close(); e != api.OK {
			t.Errorf("Close: %d", e)
		}
	}
}

// P1: each call ends without a panic, whatever it is given.
func TestEveryArgument(t *testing.T) {
	chance := rand.New(rand.NewSource(2))
	for range 2000 {
		var w bits.Writer
		b := make([]byte, chance.Intn(20))
		chance.Read(b)
		r := bits.Read(b...)
		for range 20 {
			width := chance.Intn(200) - 60
			before := w.Len()
			if e := w.Num(chance.Uint64()>>chance.Intn(65), width); e != api.OK && w.Len() != before {
				t.Fatalf("width %d: written beside an error", width)
			}
			left := r.Left()
			n, e := r.Num(width)
			if e != api.OK && (n != 0 || r.Left() != left) {
				t.Fatalf("width %d: %d, %d left beside an error", width, n, r.Left())
			}
			r.Close()
			r.Bit()
			w.Bit(n%2 == 1)
		}
		w.Bytes()
	}
}
