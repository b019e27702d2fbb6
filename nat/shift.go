package nat

import (
	"math/bits"

	"tallymark/api"
)

// Shl tells a number times 2 to the n.
func Shl(a Nat, n int) (Nat, api.Errno) {
	if n < 0 || n > api.MaxNat {
		return Nat{}, api.ErrRange
	}
	return fit(up(a.words, n)), api.OK
}

// up tells words that are n bits further up, and above them one more, which
// may be 0.
func up(words []uint64, n int) []uint64 {
	skip, n := n/wide, n%wide
	raised := make([]uint64, len(words)+skip+1)
	for i, x := range words {
		raised[i+skip] |= x << n
		raised[i+skip+1] = x >> (wide - n)
	}
	return raised
}

// Shr tells a number divided by 2 to the n, rounded down.
func Shr(a Nat, n int) Nat {
	n = max(n, 0)
	left := len(a.words) - n/wide
	if left <= 0 {
		return Nat{}
	}
	words := make([]uint64, left)
	for i := range words {
		words[i] = a.from(n + i*wide)
	}
	return fit(words)
}

// from tells the 64 bits from the bit i on.
func (a Nat) from(i int) uint64 {
	at, n := i/wide, i%wide
	return a.word(at)>>n | a.word(at+1)<<(wide-n)
}

// Pow tells a to the n.
func Pow(a Nat, n int) (Nat, api.Errno) {
	if n < 0 {
		return Nat{}, api.ErrRange
	}
	one := Of(1)
	switch {
	case n == 0:
		return one, api.OK
	case Cmp(a, one) <= 0:
		return a, api.OK
	case n > api.MaxNat/a.Bits():
		return Nat{}, api.ErrSize
	}
	p := one
	for i := bits.Len(uint(n)) - 1; i >= 0; i-- {
		p = Mul(p, p)
		if n>>i&1 == 1 {
			p = Mul(p, a)
		}
	}
	return p, api.OK
}
