package nat

import (
	"math"
	"math/bits"
	"slices"

	"tallymark/api"
)

// DivMod tells how often b goes into a, and what is left.
func DivMod(a, b Nat) (q, r Nat, e api.Errno) {
	switch {
	case b.Zero():
		return Nat{}, Nat{}, api.ErrDiv
	case Cmp(a, b) < 0:
		return Nat{}, a, api.OK
	case len(b.words) == 1:
		q, r = byWord(a, b.words[0])
	default:
		q, r = byWords(a, b)
	}
	return q, r, api.OK
}

// byWord divides by one word.
func byWord(a Nat, b uint64) (q, r Nat) {
	words := make([]uint64, len(a.words))
	var rest uint64
	for i, x := range slices.Backward(a.words) {
		words[i], rest = bits.Div64(rest, x, b)
	}
	return fit(words), Of(rest)
}

// byWords divides by two words and more, a digit of 64 bits at a time. Both
// numbers go up first till the highest bit of b is set: a digit that is guessed
// from the highest words alone is then at most two too great.
func byWords(a, b Nat) (q, r Nat) {
	n := len(b.words)
	raise := bits.LeadingZeros64(b.words[n-1])
	left, by := up(a.words, raise), up(b.words, raise)[:n]
	words := make([]uint64, len(left)-n)
	for i := range slices.Backward(words) {
		words[i] = digit(left[i:i+n+1], by)
	}
	return fit(words), Shr(fit(left[:n]), raise)
}

// digit tells how often b goes into left, which has a word more and is less
// than b times 2 to the 64. It leaves what is left there, but for the highest
// word, which nobody reads again.
func digit(left, b []uint64) uint64 {
	n := len(b)
	d := guess(left[n], left[n-1], b[n-1])
	for owed := takeTimes(left, b, d) - left[n]; owed > 0; owed -= addTimes(left, b, 1) {
		d--
	}
	return d
}

// guess tells how often b goes into two words, but no more than a word holds.
func guess(high, low, b uint64) uint64 {
	if high >= b {
		return math.MaxUint64
	}
	d, _ := bits.Div64(high, low, b)
	return d
}

// takeTimes takes b, taken n times, from the first words of left, as many as b
// has, and tells what is still to be taken from those above them.
func takeTimes(left, b []uint64, n uint64) uint64 {
	var over, borrow uint64
	for i, x := range b {
		over, x = timesPlus(x, n, over)
		left[i], borrow = bits.Sub64(left[i], x, 0)
		over += borrow
	}
	return over
}
