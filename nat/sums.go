package nat

import (
	"math/bits"

	"tallymark/api"
)

// Add tells the sum.
func Add(a, b Nat) Nat {
	long := max(len(a.words), len(b.words))
	sum := make([]uint64, long+1)
	var carry uint64
	for i := range long {
		sum[i], carry = bits.Add64(a.word(i), b.word(i), carry)
	}
	sum[long] = carry
	return fit(sum)
}

// Sub tells the difference, if b isn't more.
func Sub(a, b Nat) (Nat, api.Errno) {
	if Cmp(a, b) < 0 {
		return Nat{}, api.ErrRange
	}
	left := make([]uint64, len(a.words))
	var borrow uint64
	for i, x := range a.words {
		left[i], borrow = bits.Sub64(x, b.word(i), borrow)
	}
	return fit(left), api.OK
}

// Mul tells the product.
func Mul(a, b Nat) Nat {
	product := make([]uint64, len(a.words)+len(b.words))
	for i, x := range a.words {
		product[i+len(b.words)] = addTimes(product[i:], b.words, x)
	}
	return fit(product)
}

// addTimes adds b, taken n times, to the first words of sum, as many as b has,
// and tells what goes above them.
func addTimes(sum, b []uint64, n uint64) uint64 {
	var over, carry uint64
	for i, x := range b {
		over, x = timesPlus(x, n, over)
		sum[i], carry = bits.Add64(sum[i], x, 0)
		over += carry
	}
	return over
}

// timesPlus tells x times n and more, which two words always hold.
func timesPlus(x, n, more uint64) (high, low uint64) {
	high, low = bits.Mul64(x, n)
	low, carry := bits.Add64(low, more, 0)
	return high + carry, low
}
