package nat_test

import (
	"math/big"
	"math/rand"
	"slices"
	"testing"

	"tallymark/api"
	"tallymark/nat"
)

// P5.2: sums, differences and products of any two.
func TestSums(t *testing.T) {
	for _, a := range samples() {
		for _, b := range samples() {
			x, y := value(a), value(b)
			is(t, "sum", nat.Add(a, b), new(big.Int).Add(x, y))
			is(t, "product", nat.Mul(a, b), new(big.Int).Mul(x, y))
			less, e := nat.Sub(a, b)
			if want := new(big.Int).Sub(x, y); want.Sign() >= 0 && e == api.OK {
				is(t, "difference", less, want)
			} else if want.Sign() >= 0 || e != api.ErrRange || !less.Zero() {
				t.Fatalf("%x - %x: %x, %d", x, y, less.Words(), e)
			}
		}
	}
}

// P5.2: a carry goes through all words, and a borrow back through them.
func TestCarry(t *testing.T) {
	for long := 1; long <= 20; long++ {
		full := nat.Of(slices.Repeat([]uint64{all}, long)...)
		power := append(make([]uint64, long), 1)
		for _, sum := range []nat.Nat{nat.Add(full, nat.Of(1)), nat.Add(nat.Of(1), full)} {
			if got := sum.Words(); !slices.Equal(got, power) {
				t.Errorf("%d words that are all set, and 1: %x", long, got)
			}
		}
		if less, e := nat.Sub(nat.Of(power...), nat.Of(1)); e != api.OK || nat.Cmp(less, full) != 0 {
			t.Errorf("2 to the %d, less 1: %x, %d", 64*long, less.Words(), e)
		}
		if less, e := nat.Sub(nat.Of(power...), full); e != api.OK || !slices.Equal(less.Words(), []uint64{1}) {
			t.Errorf("2 to the %d, less all but 1: %x, %d", 64*long, less.Words(), e)
		}
	}
}

// P5.2: a difference has no more words than it needs.
func TestSubFewerWords(t *testing.T) {
	for _, x := range []struct{ a, b, want []uint64 }{
		{[]uint64{5, 7, 9}, []uint64{5, 7, 9}, nil},
		{[]uint64{6, 7, 9}, []uint64{5, 7, 9}, []uint64{1}},
		{[]uint64{5, 8, 9}, []uint64{5, 7, 9}, []uint64{0, 1}},
		{[]uint64{4, 8, 9}, []uint64{5, 7, 9}, []uint64{all}},
		{[]uint64{5, 7, 9}, []uint64{5}, []uint64{0, 7, 9}},
		{[]uint64{5, 7, 9}, nil, []uint64{5, 7, 9}},
		{nil, nil, nil},
	} {
		if got, e := nat.Sub(nat.Of(x.a...), nat.Of(x.b...)); e != api.OK || !slices.Equal(got.Words(), x.want) {
			t.Errorf("%x - %x: %x, %d", x.a, x.b, got.Words(), e)
		}
	}
}

// P5.2: below 0 there is no difference.
func TestSubRange(t *testing.T) {
	for _, x := range []struct{ a, b []uint64 }{
		{nil, []uint64{1}},
		{nil, []uint64{0, 1}},
		{[]uint64{4}, []uint64{5}},
		{[]uint64{all}, []uint64{0, 1}},
		{[]uint64{all, 6}, []uint64{0, 7}},
		{[]uint64{4, 7}, []uint64{5, 7}},
	} {
		if got, e := nat.Sub(nat.Of(x.a...), nat.Of(x.b...)); e != api.ErrRange || !got.Zero() {
			t.Errorf("%x - %x: %x, %d", x.a, x.b, got.Words(), e)
		}
	}
}

// P5.2: products of words that are all set: 2 to the m + n, less 2 to the m,
// less 2 to the n, and 1.
func TestMulFull(t *testing.T) {
	one := big.NewInt(1)
	power := func(long int) *big.Int { return new(big.Int).Lsh(one, uint(64*long)) }
	for m := range 12 {
		for n := range 12 {
			want := power(m + n)
			want.Sub(want, power(m)).Sub(want, power(n)).Add(want, one)
			got := nat.Mul(nat.Of(slices.Repeat([]uint64{all}, m)...), nat.Of(slices.Repeat([]uint64{all}, n)...))
			is(t, "product", got, want)
		}
	}
}

// divided holds a quotient and its rest against the library's.
func divided(t *testing.T, a, b nat.Nat) {
	t.Helper()
	q, r, e := nat.DivMod(a, b)
	if b.Zero() {
		if e != api.ErrDiv || !q.Zero() || !r.Zero() {
			t.Fatalf("%x by 0: %x, %x, %d", a.Words(), q.Words(), r.Words(), e)
		}
		return
	}
	want, rest := new(big.Int).DivMod(value(a), value(b), new(big.Int))
	if e != api.OK {
		t.Fatalf("%x by %x: %d", a.Words(), b.Words(), e)
	}
	is(t, "quotient", q, want)
	is(t, "rest", r, rest)
	if nat.Cmp(r, b) >= 0 || nat.Cmp(nat.Add(nat.Mul(q, b), r), a) != 0 {
		t.Fatalf("%x isn't %x times %x, and %x", a.Words(), q.Words(), b.Words(), r.Words())
	}
}

// P5.2: quotients of any two; by 0 there is none.
func TestDivMod(t *testing.T) {
	for _, a := range samples() {
		for _, b := range samples() {
			divided(t, a, b)
			divided(t, nat.Mul(a, b), b)
			divided(t, nat.Add(nat.Mul(a, b), a), b)
			if less, e := nat.Sub(nat.Mul(a, b), nat.Of(1)); e == api.OK {
				divided(t, less, b)
			}
		}
	}
}

// P5.2: the example of the chapter.
func TestDivModExample(t *testing.T) {
	a, e := nat.Pow(nat.Of(10), 20)
	if e != api.OK || a.Text() != "100000000000000000000" {
		t.Fatalf("10 to the 20: %s, %d", a.Text(), e)
	}
	if q, r, e := nat.DivMod(a, nat.Of(7)); e != api.OK || q.Text() != "14285714285714285714" || r.Text() != "2" {
		t.Errorf("by 7: %s, %s, %d", q.Text(), r.Text(), e)
	}
}

// P5.2: by 0, one word, as many words, and more words than the dividend has.
func TestDivModWords(t *testing.T) {
	for _, x := range []struct{ a, b, q, r []uint64 }{
		{[]uint64{7}, []uint64{7}, []uint64{1}, nil},
		{[]uint64{7}, []uint64{8}, nil, []uint64{7}},
		{nil, []uint64{8}, nil, nil},
		{nil, []uint64{0, 8}, nil, nil},
		{[]uint64{1, 2, 3}, []uint64{1}, []uint64{1, 2, 3}, nil},
		{[]uint64{0, 0, 1}, []uint64{2}, []uint64{0, 1 << 63}, nil},
		{[]uint64{all, all}, []uint64{all}, []uint64{1, 1}, nil},
		{[]uint64{5, 7, 9}, []uint64{5, 7, 9}, []uint64{1}, nil},
		{[]uint64{4, 7, 9}, []uint64{5, 7, 9}, nil, []uint64{4, 7, 9}},
		{[]uint64{6, 7, 9}, []uint64{5, 7, 9}, []uint64{1}, []uint64{1}},
		{[]uint64{5, 7}, []uint64{0, 0, 1}, nil, []uint64{5, 7}},
		{[]uint64{5, 7, 9}, []uint64{0, 1}, []uint64{7, 9}, []uint64{5}},
		{[]uint64{5, 7, 9}, []uint64{0, 0, 1}, []uint64{9}, []uint64{5, 7}},
		{[]uint64{all, all, all, all}, []uint64{all, all}, []uint64{1, 0, 1}, nil},
	} {
		q, r, e := nat.DivMod(nat.Of(x.a...), nat.Of(x.b...))
		if e != api.OK || !slices.Equal(q.Words(), x.q) || !slices.Equal(r.Words(), x.r) {
			t.Errorf("%x by %x: %x, %x, %d", x.a, x.b, q.Words(), r.Words(), e)
		}
	}
	for _, a := range [][]uint64{nil, {1}, {1, 2}} {
		if q, r, e := nat.DivMod(nat.Of(a...), nat.Of(0, 0)); e != api.ErrDiv || !q.Zero() || !r.Zero() {
			t.Errorf("%x by 0: %x, %x, %d", a, q.Words(), r.Words(), e)
		}
	}
}

// tooGreat tells by how much the first digit of a quotient is too great that is
// guessed from the highest word of b, whose highest bit is set, and the two
// words of a above the same place.
func tooGreat(a, b *big.Int, long int) int {
	low := uint(64 * (long - 1))
	guess := new(big.Int).Div(new(big.Int).Rsh(a, low), new(big.Int).Rsh(b, low))
	if most := new(big.Int).SetUint64(all); guess.Cmp(most) > 0 {
		guess = most
	}
	return int(guess.Sub(guess, new(big.Int).Div(a, b)).Int64())
}

// P5.2: quotients of which a digit that is guessed from the highest words is
// one or two too great, the highest digit or one below it, and at each raise
// of the divisor.
func TestDivModGuess(t *testing.T) {
	seen := map[int]int{}
	digits := []uint64{1, 2, 3, 1 << 32, 1<<63 - 1, 1 << 63, 1<<63 + 1, all - 3, all - 2, all - 1, all}
	lows := []uint64{0, 1, 1 << 63, all - 1, all}
	for _, top := range []uint64{1 << 63, 1<<63 + 1, 3 << 62, all - 1, all} {
		for _, low := range lows {
			for _, lowest := range lows {
				for _, b := range []nat.Nat{nat.Of(low, top), nat.Of(lowest, low, top)} {
					long := len(b.Words())
					for _, d := range digits {
						for _, rest := range []nat.Nat{{}, nat.Of(1), short(b, 1), short(b, all)} {
							a := nat.Add(nat.Mul(b, nat.Of(d)), rest)
							seen[tooGreat(value(a), value(b), long)]++
							divided(t, a, b)
							divided(t, nat.Add(shifted(a, 64), nat.Of(all)), b)
							divided(t, nat.Add(nat.Mul(b, nat.Of(d, 1, d)), rest), b)
							divided(t, nat.Shr(a, 7), nat.Shr(b, 7))
							divided(t, shifted(a, 63), shifted(b, 63))
						}
					}
				}
			}
		}
	}
	if seen[0] == 0 || seen[1] == 0 || seen[2] == 0 || len(seen) != 3 {
		t.Errorf("guesses that are so much too great: %v", seen)
	}
}

// short is a number less n, or 0.
func short(a nat.Nat, n uint64) nat.Nat {
	less, _ := nat.Sub(a, nat.Of(n))
	return less
}

// shifted is a number times 2 to the n, by a product.
func shifted(a nat.Nat, n int) nat.Nat {
	words := make([]uint64, n/64+1)
	words[n/64] = 1 << (n % 64)
	return nat.Mul(a, nat.Of(words...))
}

// P5.2: long numbers, and far more of them.
func TestDivModDrawn(t *testing.T) {
	chance := rand.New(rand.NewSource(2))
	for range 20000 {
		divided(t, drawn(chance, 12), drawn(chance, 6))
	}
	for range 50 {
		divided(t, drawn(chance, 300), drawn(chance, 200))
	}
}
