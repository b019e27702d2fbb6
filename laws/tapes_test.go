package laws

import (
	"math/big"
	"slices"
	"strings"
	"testing"

	"tallymark/api"
	"tallymark/tape"
)

// found is what a deed answers of the tapes that are just enough for it, and
// what all others weigh, which are too short.
type found[S comparable] struct {
	answers map[string]S
	open    *big.Rat
}

// half tells 1 by 2 to the n.
func half(n int) *big.Rat {
	return new(big.Rat).SetFrac(big.NewInt(1), new(big.Int).Lsh(big.NewInt(1), uint(n)))
}

// goThrough asks a deed of all tapes of at most so many coins. One that is not
// enough goes on with either coin; of one that is enough all coins are read.
func goThrough[S comparable](t *testing.T, what string, most int, do deed[S]) found[S] {
	t.Helper()
	l := found[S]{map[string]S{}, new(big.Rat)}
	var from func(text string)
	from = func(text string) {
		x := tape.New(coinsOf(text)...)
		got, e := do(x)
		if x.Read() != len(text) || x.Dead() != (e == api.ErrTape) || e != api.OK && e != api.ErrTape {
			t.Fatalf("%s of %s: %v, %d, %d read, dead %v", what, text, got, e, x.Read(), x.Dead())
		}
		switch {
		case e == api.OK:
			l.answers[text] = got
		case len(text) == most:
			l.open.Add(l.open, half(most))
		default:
			from(text + "0")
			from(text + "1")
		}
	}
	from("")
	l.stay(t, what, do)
	l.apart(t, what)
	return l
}

// stay asks for the same of longer tapes (P2).
func (l found[S]) stay(t *testing.T, what string, do deed[S]) {
	t.Helper()
	for text, want := range l.answers {
		for _, more := range []string{"0", "1", "01", "10", "111"} {
			x := tape.New(coinsOf(text + more)...)
			if got, e := do(x); got != want || e != api.OK || x.Read() != len(text) || x.Dead() {
				t.Fatalf("%s of %s, and %s: %v, %d, %d read; not %v", what, text, more, got, e, x.Read(), want)
			}
		}
	}
}

// apart asks that no tape is the beginning of another one: of texts in their
// order it would stand right ahead of such a one.
func (l found[S]) apart(t *testing.T, what string) {
	t.Helper()
	ahead, sum := "none", new(big.Rat).Set(l.open)
	for _, text := range sorted(l.answers) {
		if strings.HasPrefix(text, ahead) {
			t.Fatalf("%s: %s is the beginning of %s", what, ahead, text)
		}
		ahead = text
		sum.Add(sum, half(len(text)))
	}
	if sum.Cmp(big.NewRat(1, 1)) != 0 {
		t.Fatalf("%s: all tapes weigh %s", what, sum)
	}
}

// done asks that no tape goes on.
func (l found[S]) done(t *testing.T, what string) found[S] {
	t.Helper()
	if l.open.Sign() != 0 {
		t.Fatalf("%s: %s is open", what, l.open)
	}
	return l
}

func sorted[S any](m map[string]S) []string {
	var l []string
	for text := range m {
		l = append(l, text)
	}
	slices.Sort(l)
	return l
}

// weights tells what the tapes weigh by what their answers are taken for.
func weights[S, K comparable](l found[S], by func(S) K) map[K]*big.Rat {
	m := map[K]*big.Rat{}
	for text, s := range l.answers {
		k := by(s)
		if m[k] == nil {
			m[k] = new(big.Rat)
		}
		m[k].Add(m[k], half(len(text)))
	}
	return m
}

// weigh holds weights against chances: what is open may be of any of them.
func weigh[K comparable](t *testing.T, what string, got, want map[K]*big.Rat, open *big.Rat) {
	t.Helper()
	for k, w := range got {
		if want[k] == nil && w.Sign() != 0 {
			t.Fatalf("%s: %v weighs %s, not nothing", what, k, w)
		}
	}
	for k, w := range want {
		least := got[k]
		if least == nil {
			least = new(big.Rat)
		}
		most := new(big.Rat).Add(least, open)
		if w.Cmp(least) < 0 || w.Cmp(most) > 0 {
			t.Fatalf("%s: %v weighs %s to %s, not %s", what, k, least, most, w)
		}
	}
}
