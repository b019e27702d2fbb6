package nat_test

import (
	"math"
	"math/big"
	"math/rand"
	"slices"
	"testing"

	"tallymark/nat"
)

const all = math.MaxUint64 // a word of which each bit is set

// value tells a number as the library's, by its words.
func value(a nat.Nat) *big.Int {
	n := new(big.Int)
	for _, x := range slices.Backward(a.Words()) {
		n.Lsh(n, 64).Or(n, new(big.Int).SetUint64(x))
	}
	return n
}

// number makes a number of the library's, which isn't below 0.
func number(n *big.Int) nat.Nat {
	var words []uint64
	for rest := new(big.Int).Set(n); rest.Sign() > 0; rest.Rsh(rest, 64) {
		words = append(words, new(big.Int).And(rest, new(big.Int).SetUint64(all)).Uint64())
	}
	return nat.Of(words...)
}

// is holds a number against the library's, and its words against the fewest.
func is(t *testing.T, what string, got nat.Nat, want *big.Int) {
	t.Helper()
	words := got.Words()
	if n := len(words); n > 0 && words[n-1] == 0 || n != (want.BitLen()+63)/64 || value(got).Cmp(want) != 0 {
		t.Fatalf("%s: words %x, not %x", what, words, want)
	}
	if got.Bits() != want.BitLen() || got.Zero() != (want.Sign() == 0) {
		t.Fatalf("%s: %x has %d bits, Zero %v", what, want, got.Bits(), got.Zero())
	}
}

// drawn is a number of so many words at most, noughts and words that are all
// set often among them.
func drawn(chance *rand.Rand, most int) nat.Nat {
	words := make([]uint64, chance.Intn(most+1))
	for i := range words {
		switch chance.Intn(5) {
		case 0:
		case 1:
			words[i] = all
		case 2:
			words[i] = 1 << chance.Intn(64)
		default:
			words[i] = chance.Uint64() >> chance.Intn(64)
		}
	}
	return nat.Of(words...)
}

// samples are numbers at the edges, and some that are drawn.
func samples() []nat.Nat {
	l := []nat.Nat{{}, nat.Of(1), nat.Of(2), nat.Of(3), nat.Of(10), nat.Of(all - 1), nat.Of(1 << 63), nat.Of(1<<63 - 1)}
	for long := 1; long <= 4; long++ {
		words := slices.Repeat([]uint64{all}, long)
		power := make([]uint64, long+1)
		power[long] = 1
		l = append(l, nat.Of(words...), nat.Of(power...))
		words[0]--
		power[0]++
		l = append(l, nat.Of(words...), nat.Of(power...))
		words[0], words[long-1] = 0, 1<<63
		l = append(l, nat.Of(words...))
	}
	chance := rand.New(rand.NewSource(1))
	for long := range 60 {
		l = append(l, drawn(chance, 1+long/4))
	}
	return append(l, drawn(chance, 130), drawn(chance, 130))
}

// ints are arguments at the edges of what an int may be.
var ints = []int{math.MinInt, math.MinInt + 1, -8193, -65, -64, -1, 0, 1, 2, 63, 64, 65, 127, 128, 129, 8191, 8192, 8193, math.MaxInt - 1, math.MaxInt}

// P5.1: a number has as few words as may be, the lowest first.
func TestOf(t *testing.T) {
	for _, x := range []struct{ of, want []uint64 }{
		{nil, nil},
		{[]uint64{}, nil},
		{[]uint64{0}, nil},
		{make([]uint64, 9), nil},
		{[]uint64{1}, []uint64{1}},
		{[]uint64{all}, []uint64{all}},
		{[]uint64{5, 0}, []uint64{5}},
		{[]uint64{5, 0, 0, 0}, []uint64{5}},
		{[]uint64{0, 5}, []uint64{0, 5}},
		{[]uint64{0, 0, 5, 0}, []uint64{0, 0, 5}},
		{[]uint64{1, 2, 3}, []uint64{1, 2, 3}},
		{[]uint64{all, all, 1}, []uint64{all, all, 1}},
	} {
		a := nat.Of(x.of...)
		if got := a.Words(); !slices.Equal(got, x.want) || a.Zero() != (len(x.want) == 0) {
			t.Errorf("Of(%x): words %x, Zero %v", x.of, got, a.Zero())
		}
	}
}

// P5.1: the words are 2 to the 64 apart.
func TestWordsApart(t *testing.T) {
	want, _ := new(big.Int).SetString("1020847100762815390427017310442723737601", 10) // 1 + 2 times 2^64 + 3 times 2^128
	is(t, "1, 2, 3", nat.Of(1, 2, 3), want)
}

// P5.1: the zero Nat is 0, and is taken wherever a number is.
func TestZero(t *testing.T) {
	var zero nat.Nat
	if len(zero.Words()) != 0 || zero.Bits() != 0 || zero.Bit(0) || zero.Bit(64) || !zero.Zero() || zero.Int(7) != 0 || zero.Text() != "0" {
		t.Errorf("words %x, %d bits, Text %s", zero.Words(), zero.Bits(), zero.Text())
	}
	for _, o := range []nat.Nat{nat.Of(), nat.Of(0), nat.Of(0, 0, 0), zero} {
		if nat.Cmp(zero, o) != 0 || nat.Cmp(o, zero) != 0 {
			t.Errorf("0 isn't the same as words %x", o.Words())
		}
	}
	if nat.Cmp(zero, nat.Of(1)) != -1 || nat.Cmp(nat.Of(0, 1), zero) != 1 {
		t.Error("0 isn't less than others")
	}
	for _, n := range []int{0, 1, 64, 8192} {
		up, e := nat.Shl(zero, n)
		if e != 0 || !up.Zero() || !nat.Shr(zero, n).Zero() {
			t.Errorf("0 goes to %x, %x by %d bits", up.Words(), nat.Shr(zero, n).Words(), n)
		}
	}
}

// P5.1: each bit, and none beside them.
func TestBits(t *testing.T) {
	for _, a := range samples() {
		n := value(a)
		if a.Bits() != n.BitLen() {
			t.Errorf("%x: %d bits", n, a.Bits())
		}
		for i := range a.Bits() + 130 {
			if a.Bit(i) != (n.Bit(i) == 1) {
				t.Fatalf("%x: bit %d is %v", n, i, a.Bit(i))
			}
		}
		for _, i := range ints {
			if want := i >= 0 && i < 10000 && n.Bit(i) == 1; a.Bit(i) != want {
				t.Errorf("%x: bit %d is %v", n, i, a.Bit(i))
			}
		}
	}
	for i := range 300 {
		a, _ := nat.Shl(nat.Of(1), i)
		if a.Bits() != i+1 || !a.Bit(i) || a.Bit(i-1) || a.Bit(i+1) || a.Bit(-1) {
			t.Errorf("2 to the %d: %d bits, words %x", i, a.Bits(), a.Words())
		}
	}
}

// P5.1: less, the same, more, of any two.
func TestCmp(t *testing.T) {
	for _, a := range samples() {
		for _, b := range samples() {
			if got, want := nat.Cmp(a, b), value(a).Cmp(value(b)); got != want {
				t.Errorf("Cmp(%x, %x): %d", a.Words(), b.Words(), got)
			}
		}
	}
	for _, x := range []struct {
		a, b []uint64
		want int
	}{
		{[]uint64{1, 2}, []uint64{2, 1}, 1},
		{[]uint64{2, 1}, []uint64{1, 2}, -1},
		{[]uint64{all}, []uint64{0, 1}, -1},
		{[]uint64{1, 5, 7}, []uint64{2, 5, 7}, -1},
		{[]uint64{1, 6, 7}, []uint64{2, 5, 7}, 1},
		{[]uint64{1, 5, 7, 0}, []uint64{1, 5, 7}, 0},
		{[]uint64{1 << 63}, []uint64{1}, 1},
	} {
		if got := nat.Cmp(nat.Of(x.a...), nat.Of(x.b...)); got != x.want {
			t.Errorf("Cmp(%x, %x): %d", x.a, x.b, got)
		}
	}
}

// P5.1: the number, or most; below 0 most counts as 0.
func TestInt(t *testing.T) {
	for _, x := range []struct {
		a          nat.Nat
		most, want int
	}{
		{nat.Of(7), 6, 6},
		{nat.Of(7), 7, 7},
		{nat.Of(7), 8, 7},
		{nat.Of(7), 0, 0},
		{nat.Of(7), -1, 0},
		{nat.Of(7), math.MinInt, 0},
		{nat.Of(7), math.MaxInt, 7},
		{nat.Of(0), 0, 0},
		{nat.Of(0), -5, 0},
		{nat.Of(0), 5, 0},
		{nat.Of(math.MaxInt), math.MaxInt, math.MaxInt},
		{nat.Of(math.MaxInt), math.MaxInt - 1, math.MaxInt - 1},
		{nat.Of(math.MaxInt - 1), math.MaxInt, math.MaxInt - 1},
		{nat.Of(1 << 63), math.MaxInt, math.MaxInt},
		{nat.Of(all), math.MaxInt, math.MaxInt},
		{nat.Of(all), 3, 3},
		{nat.Of(all), -3, 0},
		{nat.Of(0, 1), math.MaxInt, math.MaxInt},
		{nat.Of(2, 1), 5, 5},
		{nat.Of(0, 0, 1), 9, 9},
		{nat.Of(0, 0, 1), -9, 0},
	} {
		if got := x.a.Int(x.most); got != x.want {
			t.Errorf("%x: Int(%d) is %d", x.a.Words(), x.most, got)
		}
	}
}

// P5.1, rule 5: what is handed in isn't kept, nor is it changed, its spare
// room neither.
func TestOfCopies(t *testing.T) {
	room := []uint64{1, 2, 0, 4, 5}
	was := slices.Clone(room)
	a := nat.Of(room[:3]...)
	if !slices.Equal(room, was) {
		t.Errorf("changed to %x", room)
	}
	clear(room)
	if got := a.Words(); !slices.Equal(got, was[:2]) {
		t.Errorf("words %x", got)
	}
}

// P5.1, rule 5: a list that is answered is the caller's own, its spare room
// too; numbers that came of one another stay as they are.
func TestWordsAreNew(t *testing.T) {
	for _, a := range samples() {
		q, r, _ := nat.DivMod(a, nat.Of(0, 0, 0, 0, 0, 1))
		less, _ := nat.Sub(a, nat.Nat{})
		up, _ := nat.Shl(a, 0)
		once, _ := nat.Pow(a, 1)
		numbers := []nat.Nat{a, q, r, less, up, once, nat.Shr(a, 0), nat.Add(a, nat.Nat{}), nat.Mul(a, nat.Of(1)), nat.Gcd(a, nat.Nat{}), nat.Gcd(a, a)}
		var values []*big.Int
		for _, b := range numbers {
			values = append(values, value(b))
		}
		for _, b := range numbers {
			words, again := b.Words(), b.Words()
			want := slices.Clone(again)
			words = words[:cap(words)]
			for i := range words {
				words[i] ^= 0x5555
			}
			if !slices.Equal(again, want) {
				t.Fatal("two answers share memory")
			}
		}
		for i, b := range numbers {
			is(t, "a number whose words were changed", b, values[i])
		}
	}
}

// Layer 5: no call changes a number.
func TestUnchanged(t *testing.T) {
	l := samples()
	var values []*big.Int
	for _, a := range l {
		values = append(values, value(a))
	}
	for _, a := range l {
		for _, b := range l {
			nat.Add(a, b)
			nat.Sub(a, b)
			nat.Mul(a, b)
			nat.DivMod(a, b)
			nat.Gcd(a, b)
		}
		for _, n := range ints {
			nat.Shl(a, n)
			nat.Shr(a, n)
			nat.Pow(a, n)
		}
		nat.Parse(a.Text())
	}
	for i, a := range l {
		is(t, "a number that was handed in", a, values[i])
	}
}
