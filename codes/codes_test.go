package codes_test

import (
	"bytes"
	"math"
	"math/rand"
	"testing"

	"tallymark/api"
	"tallymark/bits"
	"tallymark/codes"
)

const greatest = math.MaxUint64

// code is one of the three, so that they can be asked alike.
type code struct {
	name  string
	least uint64
	put   func(*bits.Writer, uint64) api.Errno
	read  func(*bits.Reader) (uint64, api.Errno)
	long  func(uint64) int
}

var all = []code{
	{"Gamma", 1, codes.PutGamma, codes.Gamma, codes.Gammas},
	{"Delta", 1, codes.PutDelta, codes.Delta, codes.Deltas},
	{"Var", 0, func(w *bits.Writer, n uint64) api.Errno { codes.PutVar(w, n); return api.OK }, codes.Var, codes.Vars},
}

// numbers are small ones, and those around each power of two.
func numbers() []uint64 {
	var l []uint64
	for n := range uint64(600) {
		l = append(l, n)
	}
	for k := range 64 {
		p := uint64(1) << k
		l = append(l, p-1, p, p+1, p+p/2)
	}
	return append(l, greatest-1, greatest)
}

// parse turns noughts and ones (blanks are left out) to a writer.
func parse(text string) *bits.Writer {
	w := new(bits.Writer)
	for _, c := range text {
		if c != ' ' {
			w.Bit(c == '1')
		}
	}
	return w
}

// noughts are so many of them, and the bits of text behind.
func noughts(n int, text string) *bits.Writer {
	w := new(bits.Writer)
	for range n {
		w.Bit(false)
	}
	r := bits.Read(parse(text).Bytes()...)
	for range parse(text).Len() {
		is, _ := r.Bit()
		w.Bit(is)
	}
	return w
}

func same(a, b *bits.Writer) bool {
	return a.Len() == b.Len() && bytes.Equal(a.Bytes(), b.Bytes())
}

// reader is of a writer's bits without what fills up the last byte: as many
// as do so are set ahead of them, and are read.
func reader(w *bits.Writer) *bits.Reader {
	ahead := new(bits.Writer)
	fill := (8 - w.Len()%8) % 8
	for range fill {
		ahead.Bit(true)
	}
	r := bits.Read(w.Bytes()...)
	for range w.Len() {
		is, _ := r.Bit()
		ahead.Bit(is)
	}
	r = bits.Read(ahead.Bytes()...)
	r.Num(fill)
	return r
}

// P2.1, P2.2: the bits that the chapter tells.
func TestWritten(t *testing.T) {
	for _, x := range []struct {
		code int
		n    uint64
		want *bits.Writer
	}{
		{0, 1, parse("1")},
		{0, 2, parse("010")},
		{0, 3, parse("011")},
		{0, 5, parse("00101")},
		{0, 8, parse("0001000")},
		{0, 1 << 63, func() *bits.Writer { w := noughts(63, "1"); w.Num(0, 63); return w }()},
		{0, greatest, func() *bits.Writer { w := noughts(63, ""); w.Num(greatest, 64); return w }()},
		{1, 1, parse("1")},
		{1, 2, parse("010 0")},
		{1, 3, parse("010 1")},
		{1, 5, parse("01101")},
		{1, 8, parse("00100 000")},
		{1, greatest, func() *bits.Writer { w := parse("000000 1000000"); w.Num(greatest>>1, 63); return w }()},
		{2, 0, parse("00000000")},
		{2, 1, parse("00000001")},
		{2, 127, parse("01111111")},
		{2, 128, parse("10000000 00000001")},
		{2, 300, parse("10101100 00000010")},
		{2, 1 << 14, parse("10000000 10000000 00000001")},
		{2, greatest, func() *bits.Writer {
			w := new(bits.Writer)
			for range 9 {
				w.Num(255, 8)
			}
			w.Num(1, 8)
			return w
		}()},
	} {
		var w bits.Writer
		if e := all[x.code].put(&w, x.n); e != api.OK || !same(&w, x.want) {
			t.Errorf("%s of %d: %08b, %d bits, %d", all[x.code].name, x.n, w.Bytes(), w.Len(), e)
		}
	}
}

// P2.1: of 0 there is no Gamma and no Delta; nothing is written.
func TestNought(t *testing.T) {
	for _, c := range all[:2] {
		w := parse("101")
		if e := c.put(w, 0); e != api.ErrRange || !same(w, parse("101")) {
			t.Errorf("%s of 0: %d, %08b", c.name, e, w.Bytes())
		}
	}
}

// P2.1, P2.2, P2.3: each undoes the other, alone and at any place, and is as
// long as is told.
func TestReadBack(t *testing.T) {
	for _, c := range all {
		w := parse("1")
		for _, n := range numbers() {
			if n < c.least {
				continue
			}
			before := w.Len()
			if e := c.put(w, n); e != api.OK || w.Len()-before != c.long(n) {
				t.Errorf("%s of %d: %d, %d bits, told %d", c.name, n, e, w.Len()-before, c.long(n))
			}
			var one bits.Writer
			c.put(&one, n)
			r := reader(&one)
			if got, e := c.read(r); got != n || e != api.OK || r.Left() != 0 {
				t.Errorf("%s of %d: read %d, %d, %d left", c.name, n, got, e, r.Left())
			}
		}
		r := bits.Read(w.Bytes()...)
		r.Bit()
		for _, n := range numbers() {
			if n < c.least {
				continue
			}
			if got, e := c.read(r); got != n || e != api.OK {
				t.Fatalf("%s of %d in a row: read %d, %d", c.name, n, got, e)
			}
		}
		if e := r.Close(); e != api.OK {
			t.Errorf("%s: Close %d", c.name, e)
		}
	}
}

// P2.1, P2.2: whatever is cut off behind, the bits end within it, and the
// reader stays where it was.
func TestCut(t *testing.T) {
	for _, c := range all {
		for _, n := range numbers() {
			if n < c.least {
				continue
			}
			var w bits.Writer
			c.put(&w, n)
			for long := range w.Len() {
				cut := new(bits.Writer)
				r := bits.Read(w.Bytes()...)
				for range long {
					is, _ := r.Bit()
					cut.Bit(is)
				}
				r = reader(cut)
				if got, e := c.read(r); got != 0 || e != api.ErrEnd || r.Left() != long {
					t.Fatalf("%s of %d, %d bits of it: %d, %d, %d left", c.name, n, long, got, e, r.Left())
				}
			}
		}
	}
}

// P2.1, P2.2: what isn't a code, or ends too early.
func TestRefused(t *testing.T) {
	groups := func(b ...byte) *bits.Writer {
		w := new(bits.Writer)
		for _, g := range b {
			w.Num(uint64(g), 8)
		}
		return w
	}
	for _, x := range []struct {
		code int
		w    *bits.Writer
		want api.Errno
	}{
		{0, parse(""), api.ErrEnd},
		{0, noughts(63, ""), api.ErrEnd},
		{0, noughts(63, "1"), api.ErrEnd},
		{0, noughts(64, ""), api.ErrForm},
		{0, noughts(64, "1"), api.ErrForm},
		{0, noughts(65, ""), api.ErrForm},
		{0, noughts(200, "1"), api.ErrForm},

		{1, parse(""), api.ErrEnd},
		{1, parse("010"), api.ErrEnd},
		{1, noughts(63, ""), api.ErrEnd},
		{1, noughts(64, ""), api.ErrForm},
		{1, parse("000000 1000000"), api.ErrEnd},
		{1, parse("000000 1000001"), api.ErrForm},
		{1, parse("000000 1111111"), api.ErrForm},
		{1, parse("0000000 10000000"), api.ErrForm},
		{1, parse("0000000 1000000"), api.ErrEnd},
		{1, func() *bits.Writer { w := parse("000000 1000001"); w.Num(0, 64); w.Num(0, 64); return w }(), api.ErrForm},
		{1, func() *bits.Writer { w := noughts(63, ""); w.Num(greatest, 64); w.Num(0, 64); return w }(), api.ErrForm},

		{2, groups(), api.ErrEnd},
		{2, parse("0000000"), api.ErrEnd},
		{2, groups(128), api.ErrEnd},
		{2, groups(255, 255, 255), api.ErrEnd},
		{2, groups(255, 255, 255, 255, 255, 255, 255, 255, 255), api.ErrEnd},
		{2, groups(128, 0), api.ErrForm},
		{2, groups(255, 0), api.ErrForm},
		{2, groups(129, 128, 0), api.ErrForm},
		{2, groups(128, 128, 128, 128, 128, 128, 128, 128, 128, 0), api.ErrForm},
		{2, groups(255, 255, 255, 255, 255, 255, 255, 255, 255, 2), api.ErrForm},
		{2, groups(128, 128, 128, 128, 128, 128, 128, 128, 128, 2), api.ErrForm},
		{2, groups(255, 255, 255, 255, 255, 255, 255, 255, 255, 3), api.ErrForm},
		{2, groups(128, 128, 128, 128, 128, 128, 128, 128, 128, 64), api.ErrForm},
		{2, groups(255, 255, 255, 255, 255, 255, 255, 255, 255, 127), api.ErrForm},
		{2, groups(128, 128, 128, 128, 128, 128, 128, 128, 128, 128), api.ErrForm},
		{2, groups(128, 128, 128, 128, 128, 128, 128, 128, 128, 129), api.ErrForm},
		{2, groups(255, 255, 255, 255, 255, 255, 255, 255, 255, 255), api.ErrForm},
		{2, groups(129, 129, 129, 129, 129, 129, 129, 129, 129, 129, 1), api.ErrForm},
	} {
		r := reader(x.w)
		if n, e := all[x.code].read(r); n != 0 || e != x.want || r.Left() != x.w.Len() {
			t.Errorf("%s of %08b (%d bits): %d, %d, %d left", all[x.code].name, x.w.Bytes(), x.w.Len(), n, e, r.Left())
		}
	}
}

// P2.2: a 0 within a Var, or alone, is none behind the others.
func TestVarNoughtsWithin(t *testing.T) {
	for _, x := range []struct {
		b    []byte
		want uint64
	}{{[]byte{0}, 0}, {[]byte{128, 1}, 128}, {[]byte{128, 128, 1}, 1 << 14}, {[]byte{128, 128, 128, 128, 128, 128, 128, 128, 128, 1}, 1 << 63}} {
		if n, e := codes.Var(bits.Read(x.b...)); n != x.want || e != api.OK {
			t.Errorf("%v: %d, %d", x.b, n, e)
		}
	}
}

// P2.2: there is one way alone: what is read is written as it was.
func TestOneWay(t *testing.T) {
	chance := rand.New(rand.NewSource(1))
	read := 0
	for range 40000 {
		b := make([]byte, chance.Intn(18))
		chance.Read(b)
		for i := range b { // so that codes of all lengths come
			b[i] <<= chance.Intn(2) * chance.Intn(9)
			b[i] |= byte(chance.Intn(2)) << 7
		}
		for _, c := range all {
			r := bits.Read(b...)
			n, e := c.read(r)
			if e != api.OK {
				if n != 0 || e != api.ErrEnd && e != api.ErrForm || r.Left() != len(b)*8 {
					t.Fatalf("%s of %x: %d, %d, %d left", c.name, b, n, e, r.Left())
				}
				continue
			}
			read++
			var w, was bits.Writer
			c.put(&w, n)
			again := bits.Read(b...)
			for range len(b)*8 - r.Left() {
				is, _ := again.Bit()
				was.Bit(is)
			}
			if !same(&w, &was) {
				t.Fatalf("%s of %x: %d, which is %x", c.name, b, n, w.Bytes())
			}
		}
	}
	if read < 1000 {
		t.Errorf("only %d were read", read)
	}
}

// P2.3: how long they are, at the edges.
func TestLengths(t *testing.T) {
	for _, x := range []struct {
		n                  uint64
		gamma, delta, var7 int
	}{
		{0, 0, 0, 8}, {1, 1, 1, 8}, {2, 3, 4, 8}, {3, 3, 4, 8}, {4, 5, 5, 8}, {5, 5, 5, 8},
		{8, 7, 8, 8}, {127, 13, 11, 8}, {128, 15, 14, 16}, {300, 17, 15, 16},
		{1<<14 - 1, 27, 20, 16}, {1 << 14, 29, 21, 24},
		{1<<63 - 1, 125, 73, 72}, {1 << 63, 127, 76, 80}, {greatest, 127, 76, 80},
	} {
		if g, d, v := codes.Gammas(x.n), codes.Deltas(x.n), codes.Vars(x.n); g != x.gamma || d != x.delta || v != x.var7 {
			t.Errorf("of %d: %d, %d, %d", x.n, g, d, v)
		}
	}
}
