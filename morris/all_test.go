package morris_test

import (
	"maps"
	"math/big"
	"slices"
	"testing"

	"tallymark/api"
	"tallymark/morris"
	"tallymark/rat"
	"tallymark/tape"
)

// tapes tells of each answer, by how many coins, how many tapes bring a call to
// it.
type tapes map[bool][]int

// goThrough asks a call of all tapes of at most so many coins, each of which is
// made longer till it brings an answer: so none that brings one is the
// beginning of another one, if all its coins are read, and if what is made
// longer still answers the same.
func goThrough(t *testing.T, what string, ask call, most int) tapes {
	t.Helper()
	l := tapes{false: make([]int, most+1), true: make([]int, most+1)}
	var from func(text string)
	from = func(text string) {
		x := tape.New(coinsOf(text)...)
		got, e := ask(x)
		switch {
		case x.Read() != len(text) || x.Dead() != (e == api.ErrTape):
			t.Fatalf("%s of %s: %v, %d, %d read, dead %v", what, text, got, e, x.Read(), x.Dead())
		case e == api.OK:
			l[got][len(text)]++
			for _, more := range []string{"0", "1", "00", "01", "10", "11", "010", "101"} {
				asked(t, what, ask, text+more, got, api.OK, len(text))
			}
		case e != api.ErrTape || got:
			t.Fatalf("%s of %s: %v, %d", what, text, got, e)
		case len(text) < most:
			from(text + "0")
			from(text + "1")
		}
	}
	from("")
	return l
}

// weight tells what tapes weigh, 1 by 2 to the number of their coins each.
func weight(counts []int) *big.Rat {
	sum := new(big.Rat)
	for count, n := range counts {
		sum.Add(sum, big.NewRat(int64(n), 1<<count))
	}
	return sum
}

// weighs holds what tapes of yes weigh against the chance, but for what isn't
// done: of a chance by a power of two nothing is left.
func weighs(t *testing.T, what string, l tapes, chance rat.Rat, done bool) {
	t.Helper()
	want, _ := new(big.Rat).SetString(chance.Text())
	yes := weight(l[true])
	most := new(big.Rat).Sub(big.NewRat(1, 1), weight(l[false]))
	if yes.Cmp(want) > 0 || most.Cmp(want) < 0 || done && yes.Cmp(most) != 0 {
		t.Fatalf("%s: yes weighs %s to %s, not %s", what, yes, most, want)
	}
}

// same holds the tapes of a call against those of what it should be.
func same(t *testing.T, what string, got, want tapes) {
	t.Helper()
	if !maps.EqualFunc(got, want, slices.Equal) {
		t.Fatalf("%s: %v, not %v", what, got, want)
	}
}

// chanceOf tells the chance of a step, which is there for small a and k.
func chanceOf(t *testing.T, a, k int) rat.Rat {
	t.Helper()
	x, e := morris.Chance(a, k)
	if e != api.OK {
		t.Fatalf("Chance of a %d at %d: %d", a, k, e)
	}
	return x
}

// P12.2: all tapes of Step: those of yes weigh the chance.
func TestAllStep(t *testing.T) {
	for a := 1; a <= 9; a++ {
		for k := range 7 {
			const most = 10
			got := goThrough(t, "Step", step(a, k), most)
			weighs(t, "Step", got, chanceOf(t, a, k), false)
			same(t, "Step", got, goThrough(t, "Power", power(a, k), most))
		}
	}
}

// P12.2: all tapes of Again: those of yes weigh the chance of a step at k by
// that of one at from, of a from behind k 1.
func TestAllAgain(t *testing.T) {
	const most = 9
	for a := 1; a <= 5; a++ {
		for k := range 6 {
			for from := range 8 {
				got := goThrough(t, "Again", again(a, k, from), most)
				chance, _ := rat.Div(chanceOf(t, a, max(k, from)), chanceOf(t, a, from))
				weighs(t, "Again", got, chance, from >= k)
				same(t, "Again", got, goThrough(t, "Step", step(a, max(k-from, 0)), most))
			}
		}
	}
}

// P12.2: where a + 1 is a power of two all tapes are done, and weigh it just.
func TestAllDone(t *testing.T) {
	for _, x := range []struct{ a, k int }{{1, 0}, {1, 1}, {1, 12}, {3, 1}, {3, 6}, {7, 4}, {15, 3}, {63, 2}, {4095, 1}} {
		chance := chanceOf(t, x.a, x.k)
		weighs(t, "Step", goThrough(t, "Step", step(x.a, x.k), 12), chance, true)
		for _, from := range []int{1, 2, 1000} {
			weighs(t, "Again", goThrough(t, "Again", again(x.a, x.k+from, from), 12), chance, true)
		}
	}
}

// P12.2: a step at from, and then one at k, weigh together what a step at k
// does: so merged counters are as likely at each place as one.
func TestAllInTurn(t *testing.T) {
	for a := 1; a <= 4; a++ {
		for k := range 5 {
			for from := range k + 1 {
				both := func(t *tape.Tape) (bool, api.Errno) {
					yes, e := morris.Step(t, a, from)
					if !yes {
						return false, e
					}
					return morris.Again(t, a, k, from)
				}
				weighs(t, "both", goThrough(t, "both", both, 9), chanceOf(t, a, k), false)
			}
		}
	}
}

// P12.2: the greatest a: nearly all tapes of a few coins are yes.
func TestAllGreat(t *testing.T) {
	for _, a := range []int{1000, 4095, 4096} {
		for _, k := range []int{1, 2, 3} {
			weighs(t, "Step", goThrough(t, "Step", step(a, k), 14), chanceOf(t, a, k), false)
			weighs(t, "Again", goThrough(t, "Again", again(a, 1023, 1023-k), 14), chanceOf(t, a, k), false)
		}
	}
}
