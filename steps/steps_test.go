// Package steps puts the counters of which a step's chance is halved again and
// again, float and yu, to the same tests: of what their chapters say of both.
// It has tests alone.
package steps

import (
	"math"
	"math/big"
	"math/rand"
	"slices"
	"strings"
	"testing"

	"tallymark/api"
	"tallymark/flip"
	"tallymark/float"
	"tallymark/nat"
	"tallymark/rat"
	"tallymark/tape"
	"tallymark/yu"
)

const last = 1023 // the greatest place

var (
	beyond = []int{-1, -2, -1023, math.MinInt, 1024, 1025, 1 << 20, math.MaxInt}
	within = []int{0, 1, 2, 7, 500, 1022, 1023}
)

// counter is one of them, with the parameters that may be, and how often the
// chance of a step was halved up to each place.
type counter struct {
	name     string
	params   []int
	halvings func(a int) []int
	good     func(a int) bool
	chance   func(a, k int) (rat.Rat, api.Errno)
	value    func(a, k int) (nat.Nat, api.Errno)
	step     func(t *tape.Tape, a, k int) (bool, api.Errno)
	again    func(t *tape.Tape, a, k, from int) (bool, api.Errno)
}

func counters() []counter {
	return []counter{
		{"float", []int{0, 1, 2, 3, 4, 5, 6, 7, 8}, exponents, float.Good, float.Chance, float.Value, float.Step, float.Again},
		{"yu", []int{1, 2, 3, 4, 5}, shifts, yu.Good, yu.Chance, valueAt, yu.Step, yu.Again},
	}
}

// exponents are float's: one more where the mantissa is full.
func exponents(d int) []int {
	l, u, v := make([]int, last+1), 0, 0
	for k := range l {
		l[k] = u
		if v++; v == 1<<d {
			u, v = u+1, 0
		}
	}
	return l
}

// shifts are those that yu tells: its own tests hold them against its chapter.
func shifts(s int) []int {
	l := make([]int, last+1)
	for k := range l {
		p, _ := yu.At(s, k)
		l[k] = p.Shift
	}
	return l
}

func valueAt(s, k int) (nat.Nat, api.Errno) {
	p, e := yu.At(s, k)
	return p.Value, e
}

// bad are parameters that may not be: those next to the others, and far ones.
func (c counter) bad() []int {
	least, most := c.params[0], c.params[len(c.params)-1]
	return []int{least - 1, least - 2, math.MinInt, most + 1, most + 2, 64, 1 << 20, math.MaxInt}
}

// Rule 1: parameters that may be, and all others about them.
func TestGood(t *testing.T) {
	for _, c := range counters() {
		for a := -70; a <= 70; a++ {
			if got := c.good(a); got != slices.Contains(c.params, a) {
				t.Errorf("%s: Good(%d) is %v", c.name, a, got)
			}
		}
		for _, a := range c.bad() {
			if c.good(a) {
				t.Errorf("%s: Good(%d)", c.name, a)
			}
		}
	}
}

// faulty asks Chance and Value for an error, beside which there is nothing.
func (c counter) faulty(t *testing.T, a, k int, want api.Errno) {
	t.Helper()
	chance, e := c.chance(a, k)
	value, f := c.value(a, k)
	if e != want || f != want || rat.Cmp(chance, rat.Rat{}) != 0 || !value.Zero() {
		t.Errorf("%s %d at %d: %s, %d; %s, %d; not %d", c.name, a, k, chance.Text(), e, value.Text(), f, want)
	}
}

// P13.1, P13.2, P14.1, P14.3: ErrParam goes ahead of ErrRange, of k and of
// from; neither takes a coin.
func TestErrors(t *testing.T) {
	all := slices.Concat(beyond, within)
	for _, c := range counters() {
		for _, a := range c.bad() {
			for _, k := range all {
				c.faulty(t, a, k, api.ErrParam)
				coinless(t, c.stepAt(a, k), false, api.ErrParam)
				for _, from := range all {
					coinless(t, c.againAt(a, k, from), false, api.ErrParam)
				}
			}
		}
		for _, a := range c.params {
			for _, k := range beyond {
				c.faulty(t, a, k, api.ErrRange)
				coinless(t, c.stepAt(a, k), false, api.ErrRange)
				for _, from := range all {
					coinless(t, c.againAt(a, k, from), false, api.ErrRange)
					coinless(t, c.againAt(a, from, k), false, api.ErrRange)
				}
			}
		}
	}
}

// P13.1, P14.1: the chance is 1 by 2 to the halvings, and the sum of 1 by the
// chances of all below k is what k stands for: by the library's numbers.
func TestSum(t *testing.T) {
	for _, c := range counters() {
		for _, a := range c.params {
			sum, halvings := new(big.Int), c.halvings(a)
			for k := range last + 1 {
				up := new(big.Int).Lsh(big.NewInt(1), uint(halvings[k]))
				chance, e := c.chance(a, k)
				if want := new(big.Rat).SetFrac(big.NewInt(1), up); e != api.OK || chance.Text() != want.RatString() {
					t.Fatalf("%s %d: Chance at %d: %s, %d, not %s", c.name, a, k, chance.Text(), e, want)
				}
				value, e := c.value(a, k)
				if e != api.OK || value.Text() != sum.String() {
					t.Fatalf("%s %d: Value at %d: %s, %d, not %s", c.name, a, k, value.Text(), e, sum)
				}
				sum.Add(sum, up)
			}
		}
	}
}

// P13.2, P14.3: of the chance 1 no coin is needed: a step that was never
// halved, and again one that is not behind from.
func TestSure(t *testing.T) {
	for _, c := range counters() {
		for _, a := range c.params {
			halvings := c.halvings(a)
			for _, k := range append(within, 3, 4, 6, 255, 256) {
				if halvings[k] == 0 {
					coinless(t, c.stepAt(a, k), true, api.OK)
				}
				for _, from := range append(within, k-k%7, max(0, k-1)) {
					if halvings[from] >= halvings[k] {
						coinless(t, c.againAt(a, k, from), true, api.OK)
					}
				}
			}
		}
	}
}

// P13.2, P14.3: of each place the step is asked of as many coins as there are
// halvings, less those of from: it is done if all of them are yes.
func TestStep(t *testing.T) {
	for _, c := range counters() {
		for _, a := range c.params {
			halvings := c.halvings(a)
			for k := 0; k <= last; k += 1 + k/20 {
				asked(t, c.stepAt(a, k), halvings[k])
				for _, from := range []int{0, 5, k / 2, max(0, k-1), k, min(k+1, last)} {
					asked(t, c.againAt(a, k, from), halvings[k]-halvings[from])
				}
			}
			asked(t, c.stepAt(a, last), halvings[last])
		}
	}
}

// asked asks a call for what Half answers of so many yes: it is no where one of
// them isn't, and has too few where one is missing.
func asked(t *testing.T, ask call, halvings int) {
	t.Helper()
	halvings = max(halvings, 0)
	all := strings.Repeat("1", halvings)
	answers(t, ask, all, true)
	for yes := 0; yes < halvings; yes += 1 + yes {
		answers(t, ask, all[:yes]+"0", false)
	}
	if halvings > 0 {
		answers(t, ask, all[1:]+"0", false)
	}
}

// P13.2, P14.3: Step and Again take and answer what flip's Half does, of any
// coins.
func TestHalf(t *testing.T) {
	chance := rand.New(rand.NewSource(1))
	for _, c := range counters() {
		for _, a := range c.params {
			halvings := c.halvings(a)
			for range 300 {
				k, from := chance.Intn(last+1), chance.Intn(last+1)
				if chance.Intn(2) == 0 {
					from = max(0, k-chance.Intn(20))
				}
				coins := make([]bool, chance.Intn(30))
				for i := range coins {
					coins[i] = chance.Intn(8) > 0
				}
				asHalf(t, c.stepAt(a, k), halvings[k], coins)
				asHalf(t, c.againAt(a, k, from), halvings[k]-halvings[from], coins)
			}
		}
	}
}

// asHalf asks a call for what Half answers of these coins.
func asHalf(t *testing.T, ask call, halvings int, coins []bool) {
	t.Helper()
	x, y := tape.New(coins...), tape.New(coins...)
	got, e := ask.of(x)
	want, f := flip.Half(y, halvings)
	if got != want || e != f || x.Read() != y.Read() || x.Dead() != y.Dead() {
		t.Fatalf("%s of %v: %v, %d, %d read; not %v, %d, %d", ask.what, coins, got, e, x.Read(), want, f, y.Read())
	}
}

// P13.2, P14.3, P2: each takes coins from the tape's next one on, and leaves
// those behind; where there are too few the tape is dead, and stays so, but
// tells what is sure nevertheless; back there it tells the same.
func TestNext(t *testing.T) {
	for _, c := range counters() {
		a := c.params[0]
		halvings := c.halvings(a)
		k := slices.Index(halvings, 3)
		x := tape.New(coinsOf("111" + "10" + "1" + "0" + "11")...)
		for range 2 {
			for i, y := range []struct {
				ask  call
				want bool
				read int
			}{
				{c.stepAt(a, k), true, 3},
				{c.stepAt(a, 0), true, 3},
				{c.stepAt(a, k), false, 5},
				{c.againAt(a, k, slices.Index(halvings, 2)), true, 6},
				{c.againAt(a, k, k), true, 6},
				{c.againAt(a, k, slices.Index(halvings, 1)), false, 7},
			} {
				if got, e := y.ask.of(x); got != y.want || e != api.OK || x.Read() != y.read || x.Dead() {
					t.Fatalf("call %d, %s: %v, %d, %d read, not %v, %d", i, y.ask.what, got, e, x.Read(), y.want, y.read)
				}
			}
			for _, ask := range []call{c.stepAt(a, k), c.againAt(a, k, 0), c.againAt(a, k, k-1), c.stepAt(a, last)} {
				if got, e := ask.of(x); got || e != api.ErrTape || x.Read() != 9 || !x.Dead() {
					t.Fatalf("%s at the end: %v, %d, %d read, dead %v", ask.what, got, e, x.Read(), x.Dead())
				}
			}
			if got, e := c.step(x, a, 0); !got || e != api.OK || !x.Dead() {
				t.Fatalf("%s at 0 of a dead tape: %v, %d", c.name, got, e)
			}
			x.Back(0)
		}
	}
}

// P1: each call ends without a panic, whatever it is given, with the errors
// that are told.
func TestEveryArgument(t *testing.T) {
	chance := rand.New(rand.NewSource(2))
	some := func(most int, ints []int) int {
		if chance.Intn(4) == 0 {
			return ints[chance.Intn(len(ints))]
		}
		return chance.Intn(most+3) - 1
	}
	for _, c := range counters() {
		most := c.params[len(c.params)-1]
		for range 1000 {
			a, k, from := some(most, c.bad()), some(last, beyond), some(last, beyond)
			_, e := c.chance(a, k)
			_, f := c.value(a, k)
			if want := c.fault(a, k); e != want || f != want {
				t.Fatalf("%s %d at %d: %d, %d, not %d", c.name, a, k, e, f, want)
			}
			if want := c.fault(a, k); want != api.OK {
				coinless(t, c.stepAt(a, k), false, want)
			}
			if want := c.fault(a, k, from); want != api.OK {
				coinless(t, c.againAt(a, k, from), false, want)
			}
			x := tape.FromBytes([]byte{0xfb}, 8)
			_, e = c.again(x, a, k, from)
			if x.Dead() != (e == api.ErrTape) || x.Read()+x.Left() != 8 {
				t.Fatalf("%s %d: Again at %d of %d: %d, %d read", c.name, a, k, from, e, x.Read())
			}
		}
	}
}

// fault tells the error of a parameter and of places.
func (c counter) fault(a int, places ...int) api.Errno {
	if !slices.Contains(c.params, a) {
		return api.ErrParam
	}
	if slices.Min(places) < 0 || slices.Max(places) > last {
		return api.ErrRange
	}
	return api.OK
}
