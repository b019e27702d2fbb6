package rat

import (
	"strings"

	"tallymark/api"
	"tallymark/nat"
	"tallymark/whole"
)

const line = "/"

// Text tells a fraction's decimal digits, above the line and, unless it is a
// whole number, below it.
func (x Rat) Text() string {
	if x.Whole() {
		return x.num.Text()
	}
	return x.num.Text() + line + x.den.Text()
}

// Parse reads what Text tells, and nothing else.
func Parse(s string) (Rat, api.Errno) {
	above, below, both := strings.Cut(s, line)
	num, e := whole.Parse(above)
	if e != api.OK {
		return Rat{}, e
	}
	if !both {
		return Rat{num: num}, api.OK
	}
	den, e := nat.Parse(below)
	if e != api.OK {
		return Rat{}, e
	}
	x, e := Frac(num, whole.Make(false, den))
	if e != api.OK || x.Text() != s {
		return Rat{}, api.ErrForm
	}
	return x, api.OK
}
