package nat

import (
	"slices"
	"strconv"
	"strings"

	"tallymark/api"
)

const (
	longest = 2000 // bytes of a text that is read
	group   = 19   // digits that a word always holds
	power   = 10_000_000_000_000_000_000
)

// Text tells a number's decimal digits.
func (a Nat) Text() string {
	groups := a.groups()
	last := len(groups) - 1
	var text strings.Builder
	text.WriteString(strconv.FormatUint(groups[last], 10))
	for _, g := range slices.Backward(groups[:last]) {
		digits := strconv.FormatUint(g, 10)
		text.WriteString(strings.Repeat("0", group-len(digits)))
		text.WriteString(digits)
	}
	return text.String()
}

// groups tells what each group of digits comes to, the lowest first: of 0 one
// group, too.
func (a Nat) groups() []uint64 {
	q, r := byWord(a, power)
	groups := []uint64{r.word(0)}
	for !q.Zero() {
		q, r = byWord(q, power)
		groups = append(groups, r.word(0))
	}
	return groups
}

// Parse reads what Text tells, and nothing else.
func Parse(s string) (Nat, api.Errno) {
	if len(s) > longest {
		return Nat{}, api.ErrSize
	}
	if !isText(s) {
		return Nat{}, api.ErrForm
	}
	var a Nat
	for s != "" {
		long := (len(s)-1)%group + 1 // only the first group may be shorter
		g, _ := strconv.ParseUint(s[:long], 10, wide)
		a = Add(Mul(a, Of(power)), Of(g))
		s = s[long:]
	}
	return a, api.OK
}

func isText(s string) bool {
	if s == "" || s[0] == '0' && len(s) > 1 {
		return false
	}
	for _, c := range []byte(s) {
		if c < '0' || c > '9' {
			return false
		}
	}
	return true
}
