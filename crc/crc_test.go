package crc_test

import (
	"bytes"
	"hash/crc32"
	"math/rand"
	"testing"

	"tallymark/api"
	"tallymark/crc"
)

// texts are bytes of all short lengths, and some long ones.
func texts() [][]byte {
	chance := rand.New(rand.NewSource(1))
	l := [][]byte{nil, {}, {0}, {255}, make([]byte, 4), make([]byte, 300), bytes.Repeat([]byte{255}, 9), []byte("123456789")}
	for long := range 70 {
		b := make([]byte, long)
		chance.Read(b)
		l = append(l, b)
	}
	long := make([]byte, 5000)
	chance.Read(long)
	return append(l, long)
}

// slow is the chapter's sum, bit by bit.
func slow(b []byte) uint32 {
	sum := uint32(0xffffffff)
	for _, x := range b {
		low := sum&0xff ^ uint32(x)
		for range 8 {
			if low%2 == 1 {
				low = low/2 ^ 0xedb88320
			} else {
				low /= 2
			}
		}
		sum = low ^ sum>>8
	}
	return ^sum
}

// P4.1: sums that are known.
func TestSumKnown(t *testing.T) {
	for _, x := range []struct {
		text string
		want uint32
	}{
		{"", 0},
		{"123456789", 0xcbf43926},
		{"a", 0xe8b7be43},
		{"abc", 0x352441c2},
		{"\x00", 0xd202ef8d},
		{"\xff", 0xff000000},
		{"\x00\x00\x00\x00", 0x2144df1c},
		{"\xff\xff\xff\xff", 0xffffffff},
		{"The quick brown fox jumps over the lazy dog", 0x414fa339},
	} {
		if got := crc.Sum([]byte(x.text)...); got != x.want {
			t.Errorf("Sum of %q: %08x, not %08x", x.text, got, x.want)
		}
	}
	if got := crc.Sum(); got != 0 {
		t.Errorf("Sum of none: %08x", got)
	}
	if got := crc.Sum('1', '2', '3', '4', '5', '6', '7', '8', '9'); got != 0xcbf43926 {
		t.Errorf("Sum of nine bytes: %08x", got)
	}
}

// P4.1: the chapter's words, bit by bit; and the library's sum.
func TestSum(t *testing.T) {
	for _, b := range texts() {
		if got := crc.Sum(b...); got != slow(b) || got != crc32.ChecksumIEEE(b) {
			t.Errorf("Sum of %x: %08x, not %08x", b, got, slow(b))
		}
	}
}

// P4.1: what each byte is turned to, by eight turns.
func TestTable(t *testing.T) {
	table := crc.Table()
	for i := range 256 {
		want := uint32(i)
		for range 8 {
			fell := want % 2
			want /= 2
			if fell == 1 {
				want ^= 0xedb88320
			}
		}
		if table[i] != want {
			t.Errorf("Table at %d: %08x, not %08x", i, table[i], want)
		}
	}
	for i, want := range map[int]uint32{0: 0, 1: 0x77073096, 2: 0xee0e612c, 128: 0xedb88320, 255: 0x2d02ef8d} {
		if table[i] != want {
			t.Errorf("Table at %d: %08x, not %08x", i, table[i], want)
		}
	}
}

// P4.1, rule 5: a table is the caller's own.
func TestTableIsNew(t *testing.T) {
	table := crc.Table()
	clear(table[:])
	if again := crc.Table(); again[1] != 0x77073096 {
		t.Errorf("Table at 1: %08x", again[1])
	}
	if got := crc.Sum([]byte("123456789")...); got != 0xcbf43926 {
		t.Errorf("Sum: %08x", got)
	}
}

// P4.1: bytes in two parts, cut wherever, and in many.
func TestMore(t *testing.T) {
	for _, b := range texts() {
		want := crc.Sum(b...)
		for at := 0; at <= len(b); at += 1 + len(b)/80 {
			if got := crc.More(crc.Sum(b[:at]...), b[at:]...); got != want {
				t.Fatalf("%x, cut at %d: %08x, not %08x", b, at, got, want)
			}
		}
		got := crc.Sum()
		for _, x := range b {
			got = crc.More(got, x)
		}
		if got != want {
			t.Errorf("%x, one by one: %08x, not %08x", b, got, want)
		}
	}
}

// P4.1: no bytes behind leave a sum as it is, whichever it is; and of any sum
// there is more, as the library has it.
func TestMoreOfAny(t *testing.T) {
	chance := rand.New(rand.NewSource(2))
	sums := []uint32{0, 1, 0x7fffffff, 0x80000000, 0xffffffff, 0xcbf43926}
	for range 200 {
		sums = append(sums, chance.Uint32())
	}
	for _, sum := range sums {
		if crc.More(sum) != sum || crc.More(sum, nil...) != sum {
			t.Errorf("More of %08x and none: %08x", sum, crc.More(sum))
		}
		for _, b := range [][]byte{{0}, {255}, []byte("123456789")} {
			if got, want := crc.More(sum, b...), crc32.Update(sum, crc32.IEEETable, b); got != want {
				t.Errorf("More of %08x and %x: %08x, not %08x", sum, b, got, want)
			}
		}
	}
}

// P4.2: the sum stands behind, the highest byte first.
func TestSeal(t *testing.T) {
	want := []byte("123456789\xcb\xf4\x39\x26")
	if got := crc.Seal([]byte("123456789")...); !bytes.Equal(got, want) {
		t.Errorf("%x, not %x", got, want)
	}
	if got := crc.Seal(); !bytes.Equal(got, make([]byte, 4)) {
		t.Errorf("of none: %x", got)
	}
	if got := crc.Seal('a'); !bytes.Equal(got, []byte{'a', 0xe8, 0xb7, 0xbe, 0x43}) {
		t.Errorf("of one: %x", got)
	}
}

// P4.2: Open of Seal is what was sealed, though it be a seal itself.
func TestOpen(t *testing.T) {
	for _, b := range texts() {
		for range 3 {
			sealed := crc.Seal(b...)
			if got, e := crc.Open(sealed...); !bytes.Equal(got, b) || e != api.OK {
				t.Fatalf("Open of Seal of %x: %x, %d", b, got, e)
			}
			b = sealed
		}
	}
}

// P4.2: less than four bytes aren't sealed, whatever they are.
func TestOpenEnd(t *testing.T) {
	for _, b := range [][]byte{nil, {}, {0}, {1}, {0, 0}, {255, 255}, {0, 0, 0}, {1, 2, 3}, {255, 255, 255}} {
		if got, e := crc.Open(b...); got != nil || e != api.ErrEnd {
			t.Errorf("Open of %x: %x, %d", b, got, e)
		}
	}
	if got, e := crc.Open(0, 0, 0, 0); len(got) != 0 || e != api.OK {
		t.Errorf("Open of the seal of none: %x, %d", got, e)
	}
	if got, e := crc.Open(0, 0, 0, 1); got != nil || e != api.ErrSum {
		t.Errorf("Open of four bytes: %x, %d", got, e)
	}
}

// P4.2: any one byte another one, of what was sealed or of its sum.
func TestOpenSum(t *testing.T) {
	for _, b := range texts() {
		if len(b) > 20 {
			continue
		}
		sealed := crc.Seal(b...)
		for i := range sealed {
			for turn := 1; turn < 256; turn++ {
				sealed[i] ^= byte(turn)
				if got, e := crc.Open(sealed...); got != nil || e != api.ErrSum {
					t.Fatalf("Seal of %x, byte %d turned by %02x: %x, %d", b, i, turn, got, e)
				}
				sealed[i] ^= byte(turn)
			}
		}
	}
}

// P4.2: a byte less, a byte more, and a sum the other way round are other
// sums.
func TestOpenOther(t *testing.T) {
	for _, b := range [][]byte{[]byte("123456789"), {1}, {1, 2, 3, 4, 5}} {
		sealed := crc.Seal(b...)
		n := len(b)
		turned := append(bytes.Clone(b), sealed[n+3], sealed[n+2], sealed[n+1], sealed[n])
		for _, x := range [][]byte{sealed[1:], sealed[:n+3], append(bytes.Clone(sealed), 0), append([]byte{0}, sealed...), turned} {
			if got, e := crc.Open(x...); got != nil || e != api.ErrSum {
				t.Errorf("Open of %x: %x, %d", x, got, e)
			}
		}
	}
}

// P4.1, P4.2, rule 5: no call changes the bytes it is handed, their spare room
// neither, and none keeps them.
func TestHandedIn(t *testing.T) {
	room := []byte("123456789\xcb\xf4\x39\x26spare")
	was := bytes.Clone(room)
	part, frame := room[:9], room[:13]
	sealed := crc.Seal(part...)
	opened, e := crc.Open(frame...)
	crc.Sum(part...)
	crc.More(7, part...)
	if e != api.OK || !bytes.Equal(room, was) {
		t.Fatalf("%d, changed to %x", e, room)
	}
	clear(room)
	if !bytes.Equal(sealed, was[:13]) || !bytes.Equal(opened, was[:9]) {
		t.Errorf("kept: %x, %x", sealed, opened)
	}
}

// P4.2, rule 5: what is answered is the caller's own, its spare room too.
func TestAnswered(t *testing.T) {
	b := []byte("123456789")
	frame := crc.Seal(b...)
	again := crc.Seal(b...)
	opened, _ := crc.Open(frame...)
	other, _ := crc.Open(frame...)
	for _, x := range [][]byte{frame, opened} {
		clear(x[:cap(x)])
	}
	if !bytes.Equal(b, []byte("123456789")) {
		t.Errorf("handed in: %x", b)
	}
	if !bytes.Equal(again, []byte("123456789\xcb\xf4\x39\x26")) || !bytes.Equal(other, b) {
		t.Errorf("answered: %x, %x", again, other)
	}
	if got := crc.Seal(b...); !bytes.Equal(got, again) {
		t.Errorf("sealed again: %x", got)
	}
}

// P1: each call ends without a panic, whatever it is given.
func TestEveryArgument(t *testing.T) {
	chance := rand.New(rand.NewSource(3))
	for range 3000 {
		b := make([]byte, chance.Intn(24))
		chance.Read(b)
		got, e := crc.Open(b...)
		switch {
		case len(b) < 4 && e != api.ErrEnd, e != api.OK && got != nil:
			t.Fatalf("Open of %x: %x, %d", b, got, e)
		case e == api.OK && !bytes.Equal(crc.Seal(got...), b):
			t.Fatalf("Open of %x: %x, which isn't sealed so", b, got)
		}
		crc.More(chance.Uint32(), b...)
	}
}
