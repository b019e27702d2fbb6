package logs_test

import (
	"math"
	"math/big"
	"math/rand"
	"testing"

	"tallymark/logs"
)

// asTold goes the chapter's words step by step, by numbers of any size.
func asTold(n int) int {
	if n < 1 {
		n = 1
	}
	if n > 1<<40 {
		n = 1 << 40
	}
	e := new(big.Int).SetInt64(int64(n)).BitLen() - 1
	x := new(big.Int).Lsh(big.NewInt(int64(n)), uint(62-e))
	answer := e
	for range 28 {
		x.Mul(x, x).Rsh(x, 62)
		answer *= 2
		if x.BitLen() > 63 {
			answer++
			x.Rsh(x, 1)
		}
	}
	return answer
}

// numbers are those next to powers of 2, the first ones, and some that are
// drawn, 1 to 2^40.
func numbers() []int {
	var l []int
	for k := range 41 {
		for _, n := range []int{1<<k - 2, 1<<k - 1, 1 << k, 1<<k + 1, 1<<k + 2, 3 << k / 2, 5 << k / 3} {
			if n >= 1 && n <= 1<<40 {
				l = append(l, n)
			}
		}
	}
	for n := 1; n <= 3000; n++ {
		l = append(l, n)
	}
	chance := rand.New(rand.NewSource(1))
	for range 3000 {
		l = append(l, 1+int(chance.Int63n(1<<40)>>chance.Intn(40)))
	}
	return l
}

// P8.1: logarithms that are known.
func TestKnown(t *testing.T) {
	if logs.Unit != 268435456 {
		t.Errorf("Unit %d", logs.Unit)
	}
	for _, x := range []struct{ n, want int }{
		{1, 0}, {2, 1 << 28}, {3, 425460131}, {4, 2 << 28}, {8, 3 << 28}, {1024, 10 << 28}, {1 << 20, 20 << 28}, {1 << 40, 40 << 28},
	} {
		if got := logs.Log2(x.n); got != x.want {
			t.Errorf("Log2(%d): %d, not %d", x.n, got, x.want)
		}
	}
	for k := range 41 {
		if got := logs.Log2(1 << k); got != k*logs.Unit {
			t.Errorf("Log2 of 2 to the %d: %d", k, got)
		}
	}
}

// P8.1: just what the chapter's steps come to.
func TestLog2(t *testing.T) {
	for _, n := range numbers() {
		if got, want := logs.Log2(n), asTold(n); got != want {
			t.Fatalf("Log2(%d): %d, not %d", n, got, want)
		}
	}
}

// P8.1: below 1 n counts as 1, above 2^40 as that.
func TestLog2Edges(t *testing.T) {
	for _, n := range []int{math.MinInt, math.MinInt + 1, -1 << 40, -2, -1, 0, 1} {
		if got := logs.Log2(n); got != 0 {
			t.Errorf("Log2(%d): %d", n, got)
		}
	}
	for _, n := range []int{1 << 40, 1<<40 + 1, 3 << 39, 1 << 41, 1 << 61, 1 << 62, 1<<62 + 1, math.MaxInt - 1, math.MaxInt} {
		if got := logs.Log2(n); got != 40*logs.Unit {
			t.Errorf("Log2(%d): %d", n, got)
		}
	}
	if got := logs.Log2(1<<40 - 1); got != asTold(1<<40-1) || got >= 40*logs.Unit || got < 40*logs.Unit-2 {
		t.Errorf("Log2(2^40 - 1): %d", got)
	}
}

// behind is how many bits more than Log2 the logarithm has here.
const behind = 34

// logarithm tells the logarithm of two, times Unit and 2 to the behind,
// rounded down. So many squares lose no more than 80 bits of the 400.
func logarithm(n int) *big.Int {
	e := big.NewInt(int64(n)).BitLen() - 1
	x := new(big.Float).SetPrec(400).SetInt64(int64(n))
	x.SetMantExp(x, -e)
	answer, two := big.NewInt(int64(e)), big.NewFloat(2)
	for range 28 + behind {
		x.Mul(x, x)
		answer.Lsh(answer, 1)
		if x.Cmp(two) >= 0 {
			answer.SetBit(answer, 0, 1)
			x.SetMantExp(x, -1)
		}
	}
	return answer
}

// P8.1: at most the logarithm, and more than that less 2; and no less than
// that of a lesser number.
func TestLog2Near(t *testing.T) {
	for _, n := range numbers() {
		got, log := int64(logs.Log2(n)), logarithm(n)
		low := new(big.Int).Lsh(big.NewInt(got), behind)
		high := new(big.Int).Lsh(big.NewInt(got+2), behind)
		if low.Cmp(log) > 0 || high.Cmp(log) <= 0 {
			t.Fatalf("Log2(%d): %d, and the logarithm %s by 2 to the %d", n, got, log, behind)
		}
		if n > 1 && logs.Log2(n-1) > logs.Log2(n) {
			t.Errorf("Log2(%d) is less than that of one less", n)
		}
	}
}

// P8.2: n times its logarithm; n is brought among 0 and 2^20.
func TestXLog(t *testing.T) {
	for _, x := range []struct{ n, want int }{
		{math.MinInt, 0}, {-1 << 20, 0}, {-1, 0}, {0, 0}, {1, 0}, {2, 2 << 28}, {3, 3 * 425460131}, {4, 8 << 28},
		{1<<20 - 1, (1<<20 - 1) * asTold(1<<20-1)}, {1 << 20, 20 << 48},
		{1<<20 + 1, 20 << 48}, {1 << 21, 20 << 48}, {1 << 40, 20 << 48}, {math.MaxInt, 20 << 48},
	} {
		if got := logs.XLog(x.n); got != x.want {
			t.Errorf("XLog(%d): %d, not %d", x.n, got, x.want)
		}
	}
	for n := range 3000 {
		if got, want := logs.XLog(n), n*asTold(n); got != want {
			t.Errorf("XLog(%d): %d, not %d", n, got, want)
		}
	}
}

// P8.2: by how much it goes up; n is brought among 1 and 2^20.
func TestDiff(t *testing.T) {
	last := 20<<48 - (1<<20-1)*asTold(1<<20-1)
	for _, x := range []struct{ n, want int }{
		{math.MinInt, 0}, {-1, 0}, {0, 0}, {1, 0}, {2, 2 << 28}, {3, 3*425460131 - 2<<28}, {4, 8<<28 - 3*425460131},
		{1<<20 - 1, (1<<20-1)*asTold(1<<20-1) - (1<<20-2)*asTold(1<<20-2)}, {1 << 20, last},
		{1<<20 + 1, last}, {1 << 21, last}, {1 << 40, last}, {math.MaxInt, last},
	} {
		if got := logs.Diff(x.n); got != x.want {
			t.Errorf("Diff(%d): %d, not %d", x.n, got, x.want)
		}
	}
}

// P8.2: the sum of Diff of 1 to n is XLog of n, of each n.
func TestDiffSums(t *testing.T) {
	sum := 0
	for n := 1; n <= 1<<20; n++ {
		sum += logs.Diff(n)
		if sum != logs.XLog(n) {
			t.Fatalf("to %d: %d, not %d", n, sum, logs.XLog(n))
		}
	}
}
