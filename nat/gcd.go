package nat

import "math/bits"

// Gcd tells the greatest number that divides both. It goes Euclid's way, in
// which each rest is divided by the next one.
func Gcd(a, b Nat) Nat {
	if Cmp(a, b) < 0 {
		a, b = b, a
	}
	for len(b.words) > 1 {
		a, b = nearer(a, b)
	}
	if b.Zero() {
		return a
	}
	_, r, _ := DivMod(a, b)
	return Of(ofWords(b.word(0), r.word(0)))
}

// ofWords tells the greatest word that divides both; a isn't 0.
func ofWords(a, b uint64) uint64 {
	for b != 0 {
		a, b = b, a%b
	}
	return a
}

// mix is a rest on the way: so often a less so often b, or so often b less so
// often a, by turns.
type mix struct{ a, b uint64 }

// nearer tells two rests, one behind the other, that are further on the way
// than a and b. Many steps at once by the highest bits spare as many divisions
// of all words.
func nearer(a, b Nat) (Nat, Nat) {
	p, q, steps := ahead(a, b)
	switch {
	case steps == 0:
		_, r, _ := DivMod(a, b)
		return b, r
	case steps%2 == 0:
		return mixed(p.a, a, p.b, b), mixed(q.b, b, q.a, a)
	}
	return mixed(p.b, b, p.a, a), mixed(q.a, a, q.b, b)
}

// ahead goes the way by the highest 64 bits of a, and those of b at the same
// places, and tells the last two rests of which it is sure.
func ahead(a, b Nat) (p, q mix, steps int) {
	low := max(0, a.Bits()-wide)
	x, y := a.from(low), b.from(low)
	p, q = mix{1, 0}, mix{0, 1}
	for y != 0 {
		n, z := x/y, x%y
		r := mix{p.a + n*q.a, p.b + n*q.b}
		// The bits below, which are left out, are worth less than r.b in z,
		// and less than q.b + r.b in y - z: as long as both are no less, the
		// rests of a and b go down as these do, and are 0 nowhere.
		if z < r.b || y-z < q.b+r.b {
			break
		}
		x, y, p, q = y, z, q, r
		steps++
	}
	return p, q, steps
}

// mixed tells a taken m times, less b taken n times. It is no more than a, so
// nothing is left in the words above those of a.
func mixed(m uint64, a Nat, n uint64, b Nat) Nat {
	words := make([]uint64, len(a.words))
	var y, overA, overB, borrow uint64
	for i, x := range a.words {
		overA, x = timesPlus(x, m, overA)
		overB, y = timesPlus(b.word(i), n, overB)
		words[i], borrow = bits.Sub64(x, y, borrow)
	}
	return fit(words)
}
