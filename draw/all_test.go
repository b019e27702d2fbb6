package draw_test

import (
	"maps"
	"math/big"
	"math/bits"
	"slices"
	"testing"

	"tallymark/api"
	"tallymark/tape"
)

// tapes tells of each answer, by how many coins, how many tapes bring a call to
// it.
type tapes map[uint64][]int

// add counts n more tapes of so many coins; those of more than the most aren't
// tried.
func (l tapes) add(x uint64, count, n, most int) {
	if count > most || n == 0 {
		return
	}
	if l[x] == nil {
		l[x] = make([]int, most+1)
	}
	l[x][count] += n
}

// goThrough asks a call of all tapes of at most so many coins, each of which is
// made longer till it brings an answer: so none that brings one is the
// beginning of another one, if all its coins are read, and if what is made
// longer still answers the same.
func goThrough(t *testing.T, what string, ask call, most int) tapes {
	t.Helper()
	l := tapes{}
	var from func(text string)
	from = func(text string) {
		x := tape.New(coinsOf(text)...)
		got, e := ask(x)
		switch {
		case x.Read() != len(text) || x.Dead() != (e == api.ErrTape):
			t.Fatalf("%s of %s: %d, %d, %d read, dead %v", what, text, got, e, x.Read(), x.Dead())
		case e == api.OK:
			l.add(got, len(text), 1, most)
			longer(t, what, ask, text, got)
		case e != api.ErrTape || got != 0:
			t.Fatalf("%s of %s: %d, %d", what, text, got, e)
		case len(text) < most:
			from(text + "0")
			from(text + "1")
		}
	}
	from("")
	return l
}

// longer asks for the same answer with any coins behind, which are left.
func longer(t *testing.T, what string, ask call, text string, want uint64) {
	t.Helper()
	for more := 1; more <= 3; more++ {
		for behind := range uint64(1) << more {
			x := tape.New(coinsOf(text + digits(behind, more))...)
			if got, e := ask(x); got != want || e != api.OK || x.Read() != len(text) || x.Left() != more {
				t.Fatalf("%s of %s and %d more: %d, %d, %d read, not %d", what, text, more, got, e, x.Read(), want)
			}
		}
	}
}

// same holds the tapes that there are against those that there should be.
func same(t *testing.T, what string, got, want tapes) {
	t.Helper()
	if !maps.EqualFunc(got, want, slices.Equal) {
		t.Fatalf("%s: %v, not %v", what, got, want)
	}
}

// weight tells what tapes weigh, 1 by 2 to the number of their coins each.
func weight(counts []int) *big.Rat {
	sum := new(big.Rat)
	for count, n := range counts {
		sum.Add(sum, big.NewRat(int64(n), 1<<count))
	}
	return sum
}

// all tells what all tapes weigh that bring an answer.
func (l tapes) all() *big.Rat {
	sum := new(big.Rat)
	for _, counts := range l {
		sum.Add(sum, weight(counts))
	}
	return sum
}

// P11.2: all tapes of Below: those of each number weigh the same; what isn't
// done is drawn again.
func TestAllBelow(t *testing.T) {
	const most = 12
	for n := 1; n <= 40; n++ {
		got := goThrough(t, "Below", below(uint64(n)), most)
		wide := bits.Len(uint(n - 1))
		great := 1<<wide - n
		want, open := tapes{}, 1
		for count := wide; count <= most; count += wide {
			for x := range n {
				want.add(uint64(x), count, open, most)
			}
			if open *= great; open == 0 {
				break
			}
		}
		same(t, "Below", got, want)
		each := weight(got[0])
		for x, counts := range got {
			if weight(counts).Cmp(each) != 0 || x >= uint64(n) || len(got) != n {
				t.Fatalf("Below %d: %d weighs %s, 0 %s, of %d numbers", n, x, weight(counts), each, len(got))
			}
		}
		if great == 0 && each.Cmp(big.NewRat(1, int64(n))) != 0 {
			t.Fatalf("Below %d: each weighs %s", n, each)
		}
	}
}

// P11.2: all tapes of Binomial: of y coins as many of each number as there are
// ways to it.
func TestAllBinomial(t *testing.T) {
	const most = 12
	for y := -2; y <= most; y++ {
		got := goThrough(t, "Binomial", binomial(y), most)
		want := tapes{}
		count := max(y, 0)
		for x := range count + 1 {
			ways := new(big.Int).Binomial(int64(count), int64(x))
			want.add(uint64(x), count, int(ways.Int64()), most)
		}
		same(t, "Binomial", got, want)
		mean := new(big.Rat)
		for x, counts := range got {
			mean.Add(mean, new(big.Rat).Mul(weight(counts), big.NewRat(int64(x), 1)))
		}
		if got.all().Cmp(big.NewRat(1, 1)) != 0 || mean.Cmp(big.NewRat(int64(count), 2)) != 0 {
			t.Fatalf("Binomial %d: %s in all, %s in the mean", y, got.all(), mean)
		}
	}
}

// roundTapes are those of Round of p by q: one tape parts from the digits of
// what is above the floor at each, and one goes with them to their end.
func roundTapes(p, q, most int) tapes {
	l := tapes{}
	floor, above := uint64(p/q), p%q
	if above == 0 {
		l.add(floor, 0, 1, most)
		return l
	}
	for count := 1; count <= most; count++ {
		l.add(floor+uint64(above<<count/q%2), count, 1, most)
		if above<<count%q == 0 {
			l.add(floor, count, 1, most)
			break
		}
	}
	return l
}

// P11.2: all tapes of Round: the mean is x, but for what isn't done, which
// would be its floor or one more.
func TestAllRound(t *testing.T) {
	const most = 10
	for q := 1; q <= 18; q++ {
		for p := range 4 * q {
			x := frac(p, q)
			got := goThrough(t, "Round "+x.Text(), round(x), most)
			same(t, "Round "+x.Text(), got, roundTapes(p, q, most))
			meanIs(t, got, p, q)
		}
	}
}

// meanIs holds what tapes bring in the mean against p by q.
func meanIs(t *testing.T, l tapes, p, q int) {
	t.Helper()
	floor := big.NewRat(int64(p/q), 1)
	least, one := new(big.Rat), big.NewRat(1, 1)
	for x, counts := range l {
		least.Add(least, new(big.Rat).Mul(weight(counts), big.NewRat(int64(x), 1)))
	}
	open := new(big.Rat).Sub(one, l.all())
	least.Add(least, new(big.Rat).Mul(open, floor))
	greatest := new(big.Rat).Add(least, open)
	x := big.NewRat(int64(p), int64(q))
	if least.Cmp(x) > 0 || greatest.Cmp(x) < 0 {
		t.Fatalf("Round %s: %s to %s in the mean", x, least, greatest)
	}
	if q&(q-1) == 0 && open.Sign() != 0 {
		t.Fatalf("Round %s: %s isn't done", x, open)
	}
}

// P11.2: the mean of what is just below 2^40, of 2^40, and of long fractions.
func TestAllRoundGreat(t *testing.T) {
	for _, x := range []struct{ p, q int }{
		{api.MaxTotal, 1}, {2*api.MaxTotal - 1, 2}, {16*api.MaxTotal - 1, 16}, {7*api.MaxTotal - 3, 7}, {1<<50 - 1, 1 << 11}, {1<<50 + 1, 1<<11 + 1},
	} {
		got := goThrough(t, "Round", round(frac(x.p, x.q)), 12)
		same(t, "Round", got, roundTapes(x.p, x.q, 12))
		meanIs(t, got, x.p, x.q)
	}
}
