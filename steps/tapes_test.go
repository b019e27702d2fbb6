package steps

import (
	"math/big"
	"strconv"
	"strings"
	"testing"

	"tallymark/api"
	"tallymark/tape"
)

// call is a Step or an Again, its other arguments given.
type call struct {
	what string
	of   func(t *tape.Tape) (bool, api.Errno)
}

func (c counter) stepAt(a, k int) call {
	what := c.name + " " + strconv.Itoa(a) + ": Step at " + strconv.Itoa(k)
	return call{what, func(t *tape.Tape) (bool, api.Errno) { return c.step(t, a, k) }}
}

func (c counter) againAt(a, k, from int) call {
	what := c.name + " " + strconv.Itoa(a) + ": Again at " + strconv.Itoa(k) + " of " + strconv.Itoa(from)
	return call{what, func(t *tape.Tape) (bool, api.Errno) { return c.again(t, a, k, from) }}
}

// coinsOf tells the coins of a text, 1 for yes.
func coinsOf(text string) []bool {
	coins := make([]bool, len(text))
	for i := range text {
		coins[i] = text[i] == '1'
	}
	return coins
}

// tells asks for what a call answers of these coins, and how many it takes.
func tells(t *testing.T, ask call, text string, want bool, fault api.Errno, read int) {
	t.Helper()
	x := tape.New(coinsOf(text)...)
	got, e := ask.of(x)
	if got != want || e != fault || x.Read() != read || x.Dead() != (fault == api.ErrTape) {
		t.Fatalf("%s, of %s: %v, %d, %d read, dead %v; not %v, %d, %d read", ask.what, text, got, e, x.Read(), x.Dead(), want, fault, read)
	}
}

// answers asks for what a call answers of just these coins. P2: with more of
// them behind it answers the same, and leaves those; with the last one missing
// it has too few.
func answers(t *testing.T, ask call, text string, want bool) {
	t.Helper()
	for _, more := range []string{"", "0", "1", "0110", "1111111111"} {
		tells(t, ask, text+more, want, api.OK, len(text))
	}
	if n := len(text) - 1; n >= 0 {
		tells(t, ask, text[:n], false, api.ErrTape, n)
	}
}

// coinless asks for an answer, or an error, without a coin: of a tape that is
// dead, too, which stays so.
func coinless(t *testing.T, ask call, want bool, fault api.Errno) {
	t.Helper()
	for _, text := range []string{"", "0", "1111"} {
		tells(t, ask, text, want, fault, 0)
		x := tape.New(coinsOf(text)...)
		for range len(text) + 1 {
			x.Flip()
		}
		if got, e := ask.of(x); got != want || e != fault || x.Read() != len(text) || !x.Dead() {
			t.Fatalf("%s, of %s, dead: %v, %d, dead %v; not %v, %d", ask.what, text, got, e, x.Dead(), want, fault)
		}
	}
}

// found is what a call answers of the tapes that are just enough for it.
type found map[string]bool

// goThrough asks a call of all tapes of at most so many coins. A tape that is
// not enough goes on with either coin. All coins of one that is enough are
// read, and whatever is behind them, it answers the same.
func goThrough(t *testing.T, ask call, most int) found {
	t.Helper()
	l, open := found{}, []string{""}
	for ; len(open) > 0; open = open[1:] {
		text := open[0]
		x := tape.New(coinsOf(text)...)
		got, e := ask.of(x)
		switch {
		case e == api.ErrTape && len(text) < most:
			tells(t, ask, text, false, api.ErrTape, len(text))
			open = append(open, text+"0", text+"1")
		case e != api.ErrTape:
			for _, more := range []string{"", "0", "1", "00", "01", "10", "11", "101"} {
				tells(t, ask, text+more, got, api.OK, len(text))
			}
			l[text] = got
		}
	}
	return l
}

// weight tells what the tapes of an answer weigh, 1 by 2 to the number of their
// coins each.
func (l found) weight(yes bool) *big.Rat {
	sum := new(big.Rat)
	for text, is := range l {
		if is == yes {
			sum.Add(sum, big.NewRat(1, 1<<len(text)))
		}
	}
	return sum
}

// weighs holds the tapes against a chance, which is 1 by 2 to the halvings: no
// tape is left to weigh more, and none is the beginning of another one.
func (l found) weighs(t *testing.T, what string, halvings int) {
	t.Helper()
	chance := big.NewRat(1, 1<<halvings)
	rest := new(big.Rat).Sub(big.NewRat(1, 1), chance)
	if yes, no := l.weight(true), l.weight(false); yes.Cmp(chance) != 0 || no.Cmp(rest) != 0 {
		t.Errorf("%s: yes weighs %s, no %s; not %s, %s", what, yes, no, chance, rest)
	}
	for a := range l {
		for b := range l {
			if a != b && strings.HasPrefix(b, a) {
				t.Errorf("%s: %s is the beginning of %s", what, a, b)
			}
		}
	}
}

const few = 10 // so many coins are gone through

// P13.2, P14.3, P3: all tapes of Step: those of yes weigh the chance.
func TestAllStep(t *testing.T) {
	for _, c := range counters() {
		for _, a := range c.params {
			halvings := c.halvings(a)
			for k := 0; k <= last && halvings[k] <= few; k += 1 + k/30 {
				ask := c.stepAt(a, k)
				goThrough(t, ask, few).weighs(t, ask.what, halvings[k])
			}
		}
	}
}

// P13.2, P14.3, P3: all tapes of Again: those of yes weigh the chance of a step
// at k by that of one at from; of a from that isn't ahead of k, 1.
func TestAllAgain(t *testing.T) {
	for _, c := range counters() {
		for _, a := range c.params {
			halvings := c.halvings(a)
			for _, k := range []int{0, 1, 2, 3, 4, 5, 6, 7, 8, 9, 10, 17, 40, 255, 256, 511, 512, 1023} {
				for _, from := range []int{0, 1, 2, k / 2, k - k/20, max(0, k-2), max(0, k-1), k, min(k+1, last), last} {
					if left := max(0, halvings[k]-halvings[from]); left <= few {
						ask := c.againAt(a, k, from)
						goThrough(t, ask, few).weighs(t, ask.what, left)
					}
				}
			}
		}
	}
}

// P13.2, P14.3: a step at from, and then that one again at k, weigh together
// what a step at k does: so merged counters are as likely at each place as one.
func TestAllInTurn(t *testing.T) {
	for _, c := range counters() {
		for _, a := range c.params {
			halvings := c.halvings(a)
			for _, k := range []int{0, 1, 2, 3, 4, 5, 7, 9, 11, 12, 60, 300, 600} {
				if halvings[k] > few {
					continue
				}
				for _, from := range []int{0, k / 3, k / 2, k - k/9, k} {
					what := c.againAt(a, k, from).what + " behind a step there"
					both := func(t *tape.Tape) (bool, api.Errno) {
						yes, e := c.step(t, a, from)
						if !yes {
							return false, e
						}
						return c.again(t, a, k, from)
					}
					goThrough(t, call{what, both}, few).weighs(t, what, halvings[k])
				}
			}
		}
	}
}
