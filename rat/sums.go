package rat

import (
	"tallymark/api"
	"tallymark/nat"
	"tallymark/whole"
)

// Add tells the sum. What divides it above and below the line divides what
// both have in common below it, too: that is a much shorter number to ask for
// a divisor than the product of both.
func Add(x, y Rat) Rat {
	common := nat.Gcd(x.Den(), y.Den())
	own := by(x.Den(), common)
	num := whole.Add(times(x.num, by(y.Den(), common)), times(y.num, own))
	g := nat.Gcd(num.Abs(), common)
	return fit(over(num, g), nat.Mul(own, by(y.Den(), g)))
}

// Sub tells the difference.
func Sub(x, y Rat) Rat { return Add(x, Rat{whole.Minus(y.num), y.den}) }

// Mul tells the product. Only one's number above and the other's below the
// line may have a divisor in common.
func Mul(x, y Rat) Rat {
	g := nat.Gcd(x.num.Abs(), y.Den())
	h := nat.Gcd(y.num.Abs(), x.Den())
	num := whole.Mul(over(x.num, g), over(y.num, h))
	return fit(num, nat.Mul(by(x.Den(), h), by(y.Den(), g)))
}

// Div tells the quotient.
func Div(x, y Rat) (Rat, api.Errno) {
	if y.num.Abs().Zero() {
		return Rat{}, api.ErrDiv
	}
	turned := fit(whole.Make(y.num.Neg(), y.Den()), y.num.Abs())
	return Mul(x, turned), api.OK
}

// Pow tells x to the n.
func Pow(x Rat, n int) (Rat, api.Errno) {
	num, e := nat.Pow(x.num.Abs(), n)
	if e != api.OK {
		return Rat{}, e
	}
	den, e := nat.Pow(x.Den(), n)
	if e != api.OK {
		return Rat{}, e
	}
	return fit(whole.Make(x.num.Neg() && n%2 == 1, num), den), api.OK
}

// Half tells 1 by 2 to the n.
func Half(n int) (Rat, api.Errno) {
	den, e := nat.Shl(nat.Of(1), n)
	if e != api.OK {
		return Rat{}, e
	}
	return fit(whole.Of(1), den), api.OK
}
