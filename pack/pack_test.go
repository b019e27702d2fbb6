package pack_test

import (
	"bytes"
	"math"
	"math/rand"
	"slices"
	"testing"

	"tallymark/api"
	"tallymark/bits"
	"tallymark/pack"
)

// vector makes a vector that there is.
func vector(t *testing.T, n, width int) *pack.Vector {
	t.Helper()
	v, e := pack.New(n, width)
	if v == nil || e != api.OK {
		t.Fatalf("New(%d, %d): %v, %d", n, width, v, e)
	}
	return v
}

// with makes a vector of these numbers.
func with(t *testing.T, width int, numbers ...uint64) *pack.Vector {
	t.Helper()
	v := vector(t, len(numbers), width)
	for i, n := range numbers {
		if e := v.Set(i, n); e != api.OK {
			t.Fatalf("Set(%d, %d) of width %d: %d", i, n, width, e)
		}
	}
	return v
}

// holds asks for all numbers of a vector.
func holds(t *testing.T, what string, v *pack.Vector, want ...uint64) {
	t.Helper()
	if v.Len() != len(want) {
		t.Fatalf("%s: Len %d, not %d", what, v.Len(), len(want))
	}
	for i, n := range want {
		if got, e := v.Get(i); got != n || e != api.OK {
			t.Fatalf("%s: Get(%d): %d, %d, not %d", what, i, got, e, n)
		}
	}
}

// drawn are numbers of a width, the least and the greatest often among them.
func drawn(chance *rand.Rand, count, width int) []uint64 {
	l := make([]uint64, count)
	for i := range l {
		switch chance.Intn(4) {
		case 0:
		case 1:
			l[i] = greatest(width)
		default:
			l[i] = chance.Uint64() & greatest(width)
		}
	}
	return l
}

func greatest(width int) uint64 { return 1<<width - 1 }

// bad are lengths and widths of which there is no vector.
var bad = [][2]int{
	{-1, 8}, {math.MinInt, 8}, {257, 8}, {math.MaxInt, 8},
	{-1, 1}, {257, 1}, {-1, 32}, {257, 32},
	{8, 0}, {8, 33}, {8, -1}, {8, 64}, {8, math.MinInt}, {8, math.MaxInt},
	{0, 0}, {0, 33}, {256, 0}, {256, 33}, {-1, 0}, {257, 33}, {math.MaxInt, math.MaxInt},
}

// P3.1: all numbers are 0 at first, of each length and width that may be.
func TestNew(t *testing.T) {
	for _, n := range []int{0, 1, 2, 31, 32, 33, 255, 256} {
		for width := 1; width <= 32; width++ {
			v := vector(t, n, width)
			if v.Width() != width {
				t.Errorf("New(%d, %d): Width %d", n, width, v.Width())
			}
			holds(t, "at first", v, make([]uint64, n)...)
		}
	}
}

// P3.1: of other lengths and widths there is none.
func TestNewParam(t *testing.T) {
	for _, x := range bad {
		if v, e := pack.New(x[0], x[1]); v != nil || e != api.ErrParam {
			t.Errorf("New(%d, %d): %v, %d", x[0], x[1], v, e)
		}
	}
}

// P3.1: what was set is there, and nothing else has changed, at all places of
// all widths.
func TestSet(t *testing.T) {
	chance := rand.New(rand.NewSource(1))
	for width := 1; width <= 32; width++ {
		for _, count := range []int{1, 2, 33, 67} {
			want := drawn(chance, count, width)
			v := with(t, width, want...)
			holds(t, "as set", v, want...)
			for range 3 * count {
				i := chance.Intn(count)
				want[i] = drawn(chance, 1, width)[0]
				if e := v.Set(i, want[i]); e != api.OK {
					t.Fatalf("width %d, Set(%d, %d): %d", width, i, want[i], e)
				}
				holds(t, "set again", v, want...)
			}
			if v.Width() != width {
				t.Errorf("Width %d, not %d", v.Width(), width)
			}
		}
	}
}

// P3.1: a vector that is as long and as wide as may be.
func TestGreatest(t *testing.T) {
	want := drawn(rand.New(rand.NewSource(2)), 256, 32)
	want[0], want[254], want[255] = greatest(32), 0, greatest(32)
	holds(t, "256 of 32 bits", with(t, 32, want...), want...)
}

// P3.1: neither neighbour turns, be they all set or all not.
func TestNeighbours(t *testing.T) {
	for width := 1; width <= 32; width++ {
		for _, around := range []uint64{0, greatest(width)} {
			want := slices.Repeat([]uint64{around}, 70)
			v := with(t, width, want...)
			for i := range want {
				for _, n := range []uint64{greatest(width), 0, 1, greatest(width) ^ 1, around} {
					if e := v.Set(i, n); e != api.OK {
						t.Fatalf("width %d: Set(%d, %d): %d", width, i, n, e)
					}
					want[i] = n
					holds(t, "among neighbours", v, want...)
				}
			}
		}
	}
}

// P3.1: the first and the last number are there, those beside them aren't,
// whatever is to be set there; nothing has changed.
func TestInval(t *testing.T) {
	for _, count := range []int{0, 1, 2, 32, 100, 256} {
		for _, width := range []int{1, 5, 8, 31, 32} {
			want := slices.Repeat([]uint64{1}, count)
			v := with(t, width, want...)
			for _, i := range []int{-1, count, count + 1, -count - 1, 256, 8192, math.MinInt, math.MaxInt} {
				if i < count && i >= 0 {
					continue
				}
				if n, e := v.Get(i); n != 0 || e != api.ErrInval {
					t.Errorf("%d numbers: Get(%d): %d, %d", count, i, n, e)
				}
				for _, n := range []uint64{0, 1, greatest(width), greatest(width) + 1, math.MaxUint64} {
					if e := v.Set(i, n); e != api.ErrInval {
						t.Errorf("%d numbers: Set(%d, %d): %d", count, i, n, e)
					}
				}
			}
			holds(t, "beside it", v, want...)
		}
	}
}

// P3.1: a number that just fits, and those that don't: then nothing has
// changed.
func TestRange(t *testing.T) {
	for width := 1; width <= 32; width++ {
		most := greatest(width)
		v := with(t, width, most, 0, most, 0)
		for i, was := range []uint64{most, 0, most, 0} {
			for _, n := range []uint64{most + 1, most + 2, 2*most + 1, 1 << 32, 1<<32 | was, 1 << 63, math.MaxUint64, math.MaxUint64 - most} {
				if e := v.Set(i, n); e != api.ErrRange {
					t.Errorf("width %d: Set(%d, %d): %d", width, i, n, e)
				}
				holds(t, "beside ErrRange", v, most, 0, most, 0)
			}
		}
		if e := v.Set(1, most); e != api.OK {
			t.Errorf("width %d: Set(1, %d): %d", width, most, e)
		}
		holds(t, "just fits", v, most, most, most, 0)
	}
}

// P3.2: the example of the chapter.
func TestWriteExample(t *testing.T) {
	var w bits.Writer
	with(t, 3, 1, 5, 7).Write(&w)
	if got := w.Bytes(); !bytes.Equal(got, []byte{0b00110111, 0b10000000}) || w.Len() != 9 {
		t.Errorf("%08b, %d bits", got, w.Len())
	}
	v, e := pack.Read(bits.Read(w.Bytes()...), 3, 3)
	if v == nil || e != api.OK {
		t.Fatalf("read: %v, %d", v, e)
	}
	holds(t, "read", v, 1, 5, 7)
}

// P3.2: what is written is the numbers, one behind the other, at any place of
// a writer; and the vector stays as it was.
func TestWrite(t *testing.T) {
	chance := rand.New(rand.NewSource(3))
	for ahead := range 17 {
		for width := 1; width <= 32; width++ {
			numbers := drawn(chance, chance.Intn(40), width)
			v := with(t, width, numbers...)
			var got, want bits.Writer
			got.Num(greatest(ahead), ahead)
			want.Num(greatest(ahead), ahead)
			for range 2 {
				v.Write(&got)
				for _, n := range numbers {
					want.Num(n, width)
				}
			}
			if got.Len() != ahead+2*width*len(numbers) || !bytes.Equal(got.Bytes(), want.Bytes()) {
				t.Fatalf("width %d behind %d bits: %x, not %x", width, ahead, got.Bytes(), want.Bytes())
			}
			holds(t, "written", v, numbers...)
		}
	}
}

// P3.2: of no numbers nothing is written, and nothing is read.
func TestWriteNone(t *testing.T) {
	var w bits.Writer
	vector(t, 0, 32).Write(&w)
	if w.Len() != 0 {
		t.Errorf("%d bits", w.Len())
	}
	r := bits.Read()
	v, e := pack.Read(r, 0, 32)
	if v == nil || e != api.OK || v.Len() != 0 || v.Width() != 32 || r.Left() != 0 {
		t.Errorf("read: %v, %d", v, e)
	}
}

// P3.2: what was written is read back, and not a bit more, wherever it stands.
func TestReadBack(t *testing.T) {
	chance := rand.New(rand.NewSource(4))
	for ahead := range 9 {
		for width := 1; width <= 32; width++ {
			for _, count := range []int{0, 1, 7, 64, 256} {
				numbers := drawn(chance, count, width)
				v := with(t, width, numbers...)
				var w bits.Writer
				w.Num(0, ahead)
				v.Write(&w)
				w.Num(0x15, 5)
				r := bits.Read(w.Bytes()...)
				r.Num(ahead)
				back, e := pack.Read(r, count, width)
				if back == nil || e != api.OK {
					t.Fatalf("%d of %d bits: %v, %d", count, width, back, e)
				}
				holds(t, "read back", back, numbers...)
				if back.Width() != width || !back.Same(v) || !v.Same(back) {
					t.Errorf("%d of %d bits: read back it isn't the same", count, width)
				}
				if n, e := r.Num(5); n != 0x15 || e != api.OK || r.Close() != api.OK {
					t.Errorf("%d of %d bits: behind it %x, %d", count, width, n, e)
				}
			}
		}
	}
}

// P3.2: what was read is written as it was.
func TestWriteBack(t *testing.T) {
	chance := rand.New(rand.NewSource(5))
	for width := 1; width <= 32; width++ {
		b := make([]byte, 8*width)
		chance.Read(b)
		v, e := pack.Read(bits.Read(b...), 64, width)
		if v == nil || e != api.OK {
			t.Fatalf("width %d: %v, %d", width, v, e)
		}
		var w bits.Writer
		v.Write(&w)
		if !bytes.Equal(w.Bytes(), b) {
			t.Errorf("width %d: %x, not %x", width, w.Bytes(), b)
		}
	}
}

// P3.2: one bit less than is asked, and more of them less: the reader stays
// where it was.
func TestReadEnd(t *testing.T) {
	for width := 1; width <= 32; width++ {
		for _, count := range []int{1, 2, 8, 256} {
			full := (count*width + 7) / 8 * 8
			for _, less := range []int{1, 2, width, width + 1, count * width} {
				b := bytes.Repeat([]byte{0xff}, full/8)
				r := bits.Read(b...)
				left := max(0, count*width-less)
				for range full - left {
					r.Bit()
				}
				if v, e := pack.Read(r, count, width); v != nil || e != api.ErrEnd || r.Left() != left {
					t.Fatalf("%d of %d bits, of %d: %v, %d, %d left", count, width, left, v, e, r.Left())
				}
				if n, e := r.Num(min(left, 64)); n != uint64(math.MaxUint64)>>(64-min(left, 64)) || e != api.OK {
					t.Fatalf("goes on: %x, %d", n, e)
				}
			}
		}
	}
}

// P3.2: New's errors are ahead of the end of the bits, and the reader stays.
func TestReadParam(t *testing.T) {
	for _, x := range bad {
		for _, long := range []int{0, 1, 2000} {
			r := bits.Read(make([]byte, long)...)
			if v, e := pack.Read(r, x[0], x[1]); v != nil || e != api.ErrParam || r.Left() != 8*long {
				t.Errorf("Read of %d bytes, %d, %d: %v, %d, %d left", long, x[0], x[1], v, e, r.Left())
			}
		}
	}
}

// P3.2, rule 5: the reader's bytes and the vector go their own ways.
func TestReadCopies(t *testing.T) {
	b := []byte{0x12, 0x34, 0x56}
	r := bits.Read(b...)
	again := *r
	v, _ := pack.Read(r, 3, 8)
	clear(b)
	holds(t, "read", v, 0x12, 0x34, 0x56)
	v.Set(0, 0xff)
	if n, e := again.Num(24); n != 0x123456 || e != api.OK {
		t.Errorf("the reader has %x, %d", n, e)
	}
}

// P3.3: a clone is the same, and each goes its own way.
func TestClone(t *testing.T) {
	chance := rand.New(rand.NewSource(6))
	for _, width := range []int{1, 3, 8, 31, 32} {
		for _, count := range []int{0, 1, 40, 256} {
			was := drawn(chance, count, width)
			v := with(t, width, was...)
			c := v.Clone()
			holds(t, "clone", c, was...)
			if c.Width() != width || !c.Same(v) || !v.Same(c) {
				t.Errorf("%d of %d bits: the clone isn't the same", count, width)
			}
			ours, theirs := slices.Clone(was), slices.Clone(was)
			for i := range was {
				theirs[i] = was[i] ^ greatest(width)
				c.Set(i, theirs[i])
				holds(t, "clone, set", c, theirs...)
				holds(t, "cloned, its clone set", v, ours...)
				if c.Same(v) || v.Same(c) {
					t.Errorf("%d of %d bits: a clone that is set is the same", count, width)
				}
				ours[i] = was[i] ^ 1
				v.Set(i, ours[i])
				holds(t, "clone, what was cloned set", c, theirs...)
				holds(t, "cloned, set", v, ours...)
				ours[i] = theirs[i]
				v.Set(i, ours[i])
				if !c.Same(v) || !v.Same(c) {
					t.Errorf("%d of %d bits: set alike they aren't the same", count, width)
				}
			}
		}
	}
}

// P3.3: another length, another width, or one number another one.
func TestSame(t *testing.T) {
	all := map[string]*pack.Vector{
		"none of 1 bit":      with(t, 1),
		"none of 2 bits":     with(t, 2),
		"none of 32 bits":    with(t, 32),
		"0 of 1 bit":         with(t, 1, 0),
		"0 of 2 bits":        with(t, 2, 0),
		"1 of 2 bits":        with(t, 2, 1),
		"0, 0 of 1 bit":      with(t, 1, 0, 0),
		"0, 1 of 1 bit":      with(t, 1, 0, 1),
		"1, 0 of 1 bit":      with(t, 1, 1, 0),
		"0, 0, 0 of 1 bit":   with(t, 1, 0, 0, 0),
		"0, 0 of 2 bits":     with(t, 2, 0, 0),
		"0 of 4 bits":        with(t, 4, 0),
		"0 of 32 bits":       with(t, 32, 0),
		"most of 32 bits":    with(t, 32, greatest(32)),
		"most, 0 of 32 bits": with(t, 32, greatest(32), 0),
		"0, most of 32 bits": with(t, 32, 0, greatest(32)),
	}
	for x, v := range all {
		for y, o := range all {
			if v.Same(o) != (x == y) {
				t.Errorf("%s and %s: %v", x, y, v.Same(o))
			}
		}
	}
}

// P3.3: one bit of one number, of whichever, is enough; set back they are the
// same again.
func TestSameBit(t *testing.T) {
	chance := rand.New(rand.NewSource(7))
	for _, width := range []int{1, 7, 32} {
		numbers := drawn(chance, 256, width)
		v, o := with(t, width, numbers...), with(t, width, numbers...)
		for i, n := range numbers {
			o.Set(i, n^1<<chance.Intn(width))
			if v.Same(o) || o.Same(v) {
				t.Errorf("width %d, number %d: the same", width, i)
			}
			o.Set(i, n)
			if !v.Same(o) || !o.Same(v) {
				t.Errorf("width %d, number %d: not the same again", width, i)
			}
		}
	}
}

// P1: each call ends without a panic, whatever it is given.
func TestEveryArgument(t *testing.T) {
	chance := rand.New(rand.NewSource(8))
	number := func() int {
		if chance.Intn(10) == 0 {
			return int(chance.Uint64())
		}
		return chance.Intn(400) - 60
	}
	for range 3000 {
		n, width := number(), chance.Intn(40)-3
		v, e := pack.New(n, width)
		if (v == nil) != (e != api.OK) {
			t.Fatalf("New(%d, %d): %v, %d", n, width, v, e)
		}
		b := make([]byte, chance.Intn(1200))
		r := bits.Read(b...)
		r.Num(chance.Intn(64))
		back, e := pack.Read(r, n, width)
		if (back == nil) != (e != api.OK) {
			t.Fatalf("Read(%d, %d): %v, %d", n, width, back, e)
		}
		if v == nil {
			continue
		}
		for range 20 {
			i, x := number(), chance.Uint64()>>chance.Intn(65)
			was, none := v.Get(i)
			e := v.Set(i, x)
			if got, e2 := v.Get(i); e2 != none || e == api.OK && got != x || e != api.OK && got != was {
				t.Fatalf("Set(%d, %d): %d, then %d, %d", i, x, e, got, e2)
			}
		}
		v.Write(new(bits.Writer))
		if back != nil && v.Clone().Same(back) != back.Same(v) {
			t.Fatal("Same one way alone")
		}
	}
}
