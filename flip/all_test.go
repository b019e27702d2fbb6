package flip_test

import (
	"math/big"
	"testing"

	"tallymark/api"
	"tallymark/nat"
	"tallymark/tape"
)

// ways tells, by how many coins, how many tapes bring a call to an answer.
type ways struct{ yes, no []int }

func noWays(most int) ways { return ways{make([]int, most+1), make([]int, most+1)} }

// leaf is a tape that brings a call to an answer: so many coins, as the bits
// of a number.
type leaf struct{ count, bits int }

// tapeOf makes the tape of a leaf.
func tapeOf(l leaf) *tape.Tape {
	coins := make([]bool, l.count)
	for i := range coins {
		coins[i] = l.bits>>(l.count-1-i)&1 == 1
	}
	return tape.New(coins...)
}

// begin tells the first coins of a tape.
func (l leaf) begin(count int) leaf { return leaf{count, l.bits >> (l.count - count)} }

// goThrough asks a call of all tapes of at most so many coins. A tape brings it
// to an answer if all of its coins are read: then no beginning of it does, and
// all longer ones tell the same. Of the others the tape is dead.
func goThrough(t *testing.T, what string, ask call, most int) ways {
	t.Helper()
	found := map[leaf]bool{}
	w := noWays(most)
	for count := range most + 1 {
		for bits := range 1 << count {
			l := leaf{count, bits}
			x := tapeOf(l)
			yes, e := ask(x)
			for n := range count {
				if was, there := found[l.begin(n)]; there && (yes != was || e != api.OK || x.Read() != n) {
					t.Fatalf("%s: of %d coins %b: %v; with more, %b: %v, %d, %d read", what, n, l.begin(n).bits, was, bits, yes, e, x.Read())
				}
			}
			switch {
			case e == api.ErrTape:
				if yes || x.Read() != count || !x.Dead() {
					t.Fatalf("%s: of %d coins %b: %v, ErrTape, %d read, dead %v", what, count, bits, yes, x.Read(), x.Dead())
				}
			case e != api.OK || x.Dead():
				t.Fatalf("%s: of %d coins %b: %v, %d, dead %v", what, count, bits, yes, e, x.Dead())
			case x.Read() < count:
				if _, there := found[l.begin(x.Read())]; !there {
					t.Fatalf("%s: of %d coins %b: %d were read, which aren't enough alone", what, count, bits, x.Read())
				}
			default:
				found[l] = yes
				w.add(yes, count)
			}
		}
	}
	return w
}

func (w ways) add(yes bool, count int) {
	if yes {
		w.yes[count]++
	} else {
		w.no[count]++
	}
}

// weight tells what tapes weigh, 1 by 2 to the number of their coins each.
func weight(counts []int) *big.Rat {
	sum := new(big.Rat)
	for count, n := range counts {
		sum.Add(sum, big.NewRat(int64(n), 1<<count))
	}
	return sum
}

// weighs holds the tapes against those that there should be, and what they
// weigh against the chance, but for what isn't done.
func weighs(t *testing.T, what string, got, want ways, chance *big.Rat) {
	t.Helper()
	for count, n := range want.yes {
		if got.yes[count] != n || got.no[count] != want.no[count] {
			t.Fatalf("%s: of %d coins %d yes, %d no; not %d, %d", what, count, got.yes[count], got.no[count], n, want.no[count])
		}
	}
	yes, no := weight(got.yes), weight(got.no)
	most := new(big.Rat).Sub(big.NewRat(1, 1), no)
	if yes.Cmp(chance) > 0 || most.Cmp(chance) < 0 {
		t.Fatalf("%s: yes weighs %s to %s, not %s", what, yes, most, chance)
	}
}

// halfWays are those of Half.
func halfWays(k, most int) ways {
	w := noWays(most)
	for count := 1; count <= min(k, most); count++ {
		w.no[count] = 1
	}
	if k <= most {
		w.yes[max(k, 0)] = 1
	}
	return w
}

// ratioWays are those of Ratio, by the digits of p by q: one tape parts from
// them at each, and one goes with them to their end.
func ratioWays(p, q, most int) ways {
	w := noWays(most)
	if p == 0 || p == q {
		w.add(p == q, 0)
		return w
	}
	for count := 1; count <= most; count++ {
		w.add(p<<count/q%2 == 1, count)
		if p<<count%q == 0 {
			w.add(false, count)
			break
		}
	}
	return w
}

// behind tells how many tapes there are of one of each, one behind the other.
func behind(a, b []int) []int {
	both := make([]int, len(a))
	for i, n := range a {
		for j, m := range b[:len(b)-i] {
			both[i+j] += n * m
		}
	}
	return both
}

// powerWays are those of Power: of k times Ratio, till one is no.
func powerWays(p, q, k, most int) ways {
	one, w := ratioWays(p, q, most), noWays(most)
	w.yes[0] = 1
	for range k {
		for count, n := range behind(w.yes, one.no) {
			w.no[count] += n
		}
		w.yes = behind(w.yes, one.yes)
	}
	return w
}

// toThe tells x to the k, of which below 0 counts as 0.
func toThe(x *big.Rat, k int) *big.Rat {
	product := big.NewRat(1, 1)
	for range k {
		product.Mul(product, x)
	}
	return product
}

// P10.2: all tapes of Half.
func TestAllHalf(t *testing.T) {
	for k := -2; k <= 12; k++ {
		got := goThrough(t, "Half", half(k), 10)
		weighs(t, "Half", got, halfWays(k, 10), toThe(big.NewRat(1, 2), k))
	}
}

// P10.2: all tapes of Ratio, and of Chance, for all small numbers.
func TestAllRatio(t *testing.T) {
	const most = 8
	for q := 1; q <= 17; q++ {
		for p := range q + 1 {
			chance := big.NewRat(int64(p), int64(q))
			want := ratioWays(p, q, most)
			what := "Ratio " + chance.String()
			got := goThrough(t, what, ratio(uint64(p), uint64(q)), most)
			weighs(t, what, got, want, chance)
			got = goThrough(t, "Chance "+chance.String(), chanceOf(frac(p, q)), most)
			weighs(t, "Chance "+chance.String(), got, want, chance)
		}
	}
}

// P10.2: all of Ratio but one tape come to an answer, and of a power of two
// all of as many coins as there are digits.
func TestAllRatioDone(t *testing.T) {
	for _, x := range []struct{ p, q, open int64 }{
		{1, 3, 1}, {2, 3, 1}, {5, 7, 1}, {9, 10, 1}, {1, 1000, 1}, {3, 6, 0}, {1, 2, 0}, {7, 16, 0}, {1, 4096, 0}, {4095, 4096, 0}, {1, 8192, 1},
	} {
		got := goThrough(t, "Ratio", ratio(uint64(x.p), uint64(x.q)), 12)
		open := new(big.Rat).Sub(big.NewRat(1, 1), new(big.Rat).Add(weight(got.yes), weight(got.no)))
		if open.Cmp(big.NewRat(x.open, 4096)) != 0 {
			t.Errorf("%d by %d: %s isn't done", x.p, x.q, open)
		}
		if x.open == 0 && weight(got.yes).Cmp(big.NewRat(x.p, x.q)) != 0 {
			t.Errorf("%d by %d: yes weighs %s", x.p, x.q, weight(got.yes))
		}
	}
}

// P10.2: all tapes of Power.
func TestAllPower(t *testing.T) {
	for q := 1; q <= 6; q++ {
		for p := range q + 1 {
			for k := -1; k <= 5; k++ {
				chance := big.NewRat(int64(p), int64(q))
				what := "Power " + chance.String()
				got := goThrough(t, what, power(uint64(p), uint64(q), k), 9)
				weighs(t, what, got, powerWays(p, q, k, 9), toThe(chance, k))
			}
		}
	}
}

// P10.2: of a power of two all tapes of Power are done, and weigh it just.
func TestAllPowerDone(t *testing.T) {
	for _, x := range []struct{ p, q, k int }{{1, 2, 12}, {1, 4, 6}, {3, 4, 6}, {5, 8, 4}, {6, 16, 4}, {63, 64, 2}} {
		got := goThrough(t, "Power", powerOf(nat.Of(uint64(x.p)), nat.Of(uint64(x.q)), x.k), 12)
		chance := toThe(big.NewRat(int64(x.p), int64(x.q)), x.k)
		rest := new(big.Rat).Sub(big.NewRat(1, 1), chance)
		if weight(got.yes).Cmp(chance) != 0 || weight(got.no).Cmp(rest) != 0 {
			t.Errorf("%d by %d to the %d: %s, %s", x.p, x.q, x.k, weight(got.yes), weight(got.no))
		}
	}
}
