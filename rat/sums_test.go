package rat_test

import (
	"math"
	"math/big"
	"math/rand"
	"testing"

	"tallymark/api"
	"tallymark/nat"
	"tallymark/rat"
	"tallymark/whole"
)

// sums holds the four calls of two fractions against the library's.
func sums(t *testing.T, x, y rat.Rat) {
	t.Helper()
	v, w := value(x), value(y)
	is(t, "sum", rat.Add(x, y), new(big.Rat).Add(v, w))
	is(t, "difference", rat.Sub(x, y), new(big.Rat).Sub(v, w))
	is(t, "product", rat.Mul(x, y), new(big.Rat).Mul(v, w))
	q, e := rat.Div(x, y)
	if w.Sign() == 0 {
		none(t, "by 0", q, e, api.ErrDiv)
		return
	}
	if e != api.OK {
		t.Fatalf("%s by %s: %d", v, w, e)
	}
	is(t, "quotient", q, new(big.Rat).Quo(v, w))
}

// P7.2: sums, differences, products and quotients of any two.
func TestSums(t *testing.T) {
	for _, x := range samples() {
		for _, y := range samples() {
			sums(t, x, y)
		}
	}
}

// P7.2: of small ones all, so that what is above the line has each divisor in
// common with what is below it.
func TestSumsSmall(t *testing.T) {
	var l []rat.Rat
	for p := -9; p <= 9; p++ {
		for q := 1; q <= 12; q++ {
			l = append(l, frac(p, q))
		}
	}
	for _, x := range l {
		for _, y := range l {
			sums(t, x, y)
		}
	}
}

// P7.2: of long ones, with much in common, below the line and across it.
func TestSumsDrawn(t *testing.T) {
	chance := rand.New(rand.NewSource(4))
	for range 1500 {
		d, g := whole.Make(false, drawn(chance, 6)), whole.Make(false, drawn(chance, 3))
		p, q := whole.Mul(d, signed(chance, 4)), whole.Mul(g, signed(chance, 4))
		x, e := rat.Frac(q, p)
		y, f := rat.Frac(whole.Mul(signed(chance, 2), p), whole.Mul(d, q))
		z, h := rat.Frac(signed(chance, 4), whole.Mul(d, g))
		if e != api.OK || f != api.OK || h != api.OK {
			continue
		}
		sums(t, x, y)
		sums(t, x, z)
		sums(t, z, y)
		sums(t, z, rat.Sub(rat.Of(1), z))
	}
}

// P7.2: sums that are known: of 0, whole, and with a common divisor.
func TestSumsKnown(t *testing.T) {
	for _, x := range []struct {
		p, q, r, s                   int
		sum, less, product, quotient string
	}{
		{1, 2, 1, 3, "5/6", "1/6", "1/6", "3/2"},
		{1, 2, 1, 2, "1", "0", "1/4", "1"},
		{1, 2, -1, 2, "0", "1", "-1/4", "-1"},
		{1, 6, 1, 10, "4/15", "1/15", "1/60", "5/3"},
		{1, 6, 1, 3, "1/2", "-1/6", "1/18", "1/2"},
		{2, 3, 3, 2, "13/6", "-5/6", "1", "4/9"},
		{-2, 3, -3, 2, "-13/6", "5/6", "1", "4/9"},
		{5, 1, -5, 1, "0", "10", "-25", "-1"},
		{1, 3, 2, -3, "-1/3", "1", "-2/9", "-1/2"},
		{math.MinInt, 1, 1, math.MinInt, "-85070591730234615865843651857942052865/9223372036854775808", "-85070591730234615865843651857942052863/9223372036854775808", "1", "85070591730234615865843651857942052864"},
	} {
		a, b := frac(x.p, x.q), frac(x.r, x.s)
		q, e := rat.Div(a, b)
		got := []string{rat.Add(a, b).Text(), rat.Sub(a, b).Text(), rat.Mul(a, b).Text(), q.Text()}
		for i, want := range []string{x.sum, x.less, x.product, x.quotient} {
			if got[i] != want || e != api.OK {
				t.Errorf("%s and %s: %q, %d", a.Text(), b.Text(), got, e)
				break
			}
		}
	}
}

// P7.2: powers, as far as layer 5 has them.
func TestPow(t *testing.T) {
	for _, x := range samples() {
		for _, n := range []int{0, 1, 2, 3, 5, 8, 17, 64, 100, 127, 128, 1000, 4096, 8192, 8193} {
			got, e := rat.Pow(x, n)
			v := value(x)
			if tooGreat(v.Num(), n) || tooGreat(v.Denom(), n) {
				none(t, "too great a power", got, e, api.ErrSize)
				continue
			}
			if e != api.OK {
				t.Fatalf("%s to the %d: %d", v, n, e)
			}
			num := new(big.Int).Exp(v.Num(), big.NewInt(int64(n)), nil)
			is(t, "power", got, new(big.Rat).SetFrac(num, new(big.Int).Exp(v.Denom(), big.NewInt(int64(n)), nil)))
		}
		for _, n := range []int{-1, -2, -8192, math.MinInt} {
			got, e := rat.Pow(x, n)
			none(t, "below 0", got, e, api.ErrRange)
		}
	}
}

// tooGreat asks for what layer 5 refuses: it is above 1, and its bits times n
// are more than MaxNat.
func tooGreat(n *big.Int, times int) bool { return n.BitLen() > 1 && n.BitLen()*times > api.MaxNat }

// P7.2: 0 and 1 have all powers; a sign goes and comes; what is too great is
// so above the line, or below it.
func TestPowEdges(t *testing.T) {
	wide, _ := nat.Shl(nat.Of(1), api.MaxNat-1)
	wider, _ := nat.Shl(nat.Of(1), api.MaxNat)
	for _, x := range []struct {
		x    rat.Rat
		n    int
		want string // of an error none
		e    api.Errno
	}{
		{rat.Of(0), 0, "1", api.OK}, {rat.Rat{}, 0, "1", api.OK}, {frac(0, -3), 0, "1", api.OK},
		{rat.Of(0), 1, "0", api.OK}, {rat.Of(0), 8193, "0", api.OK}, {rat.Of(0), math.MaxInt, "0", api.OK},
		{rat.Of(1), 0, "1", api.OK}, {rat.Of(1), math.MaxInt, "1", api.OK},
		{rat.Of(-1), 0, "1", api.OK}, {rat.Of(-1), math.MaxInt, "-1", api.OK}, {rat.Of(-1), math.MaxInt - 1, "1", api.OK},
		{frac(-1, 2), 0, "1", api.OK}, {frac(-1, 2), 1, "-1/2", api.OK}, {frac(-1, 2), 2, "1/4", api.OK}, {frac(-1, 2), 3, "-1/8", api.OK},
		{frac(-2, 3), 4, "16/81", api.OK}, {frac(-2, 3), 5, "-32/243", api.OK}, {rat.Of(-3), 3, "-27", api.OK}, {frac(6, 4), 2, "9/4", api.OK},
		{rat.Of(2), 4097, "", api.ErrSize}, {frac(1, 2), 4097, "", api.ErrSize}, {frac(-1, 2), 4097, "", api.ErrSize},
		{frac(2, 3), 4097, "", api.ErrSize}, {frac(3, 4), 2731, "", api.ErrSize}, {frac(4, 3), 2731, "", api.ErrSize},
		{rat.Of(2), math.MaxInt, "", api.ErrSize}, {frac(1, 3), math.MaxInt, "", api.ErrSize}, {rat.Of(3), math.MaxInt/2 + 1, "", api.ErrSize},
		{rat.Of(0), -1, "", api.ErrRange}, {rat.Of(1), -1, "", api.ErrRange}, {frac(1, 2), -1, "", api.ErrRange},
		{rat.Of(0), math.MinInt, "", api.ErrRange}, {frac(-7, 2), math.MinInt, "", api.ErrRange},
		{rat.Nat(wider), -1, "", api.ErrRange}, {rat.Nat(wider), 0, "1", api.OK}, {rat.Nat(wider), 1, "", api.ErrSize},
		{rat.Nat(wide), 1, wide.Text(), api.OK}, {rat.Nat(wide), 2, "", api.ErrSize},
	} {
		got, e := rat.Pow(x.x, x.n)
		if x.e != api.OK {
			none(t, "power", got, e, x.e)
		} else if e != api.OK || got.Text() != x.want {
			t.Errorf("%s to the %d: %s, %d", x.x.Text(), x.n, got.Text(), e)
		}
	}
	for _, x := range []rat.Rat{rat.Of(2), frac(1, 2), frac(-2, 3), frac(3, 2)} {
		p, e := rat.Pow(x, 4096)
		if e != api.OK {
			t.Fatalf("%s to the 4096: %d", x.Text(), e)
		}
		want := value(x)
		for range 12 {
			want.Mul(want, want)
		}
		is(t, "to the 4096", p, want)
	}
}

// P7.2: 1 by 2 to the n, as far as MaxNat.
func TestHalf(t *testing.T) {
	for _, n := range []int{math.MinInt, -8192, -2, -1, 8193, 8194, 1 << 20, math.MaxInt} {
		got, e := rat.Half(n)
		none(t, "Half", got, e, api.ErrRange)
	}
	for n := 0; n <= api.MaxNat; n += 1 + n/70 {
		halved(t, n)
	}
	halved(t, api.MaxNat-1)
	halved(t, api.MaxNat)
}

func halved(t *testing.T, n int) {
	t.Helper()
	got, e := rat.Half(n)
	if e != api.OK {
		t.Fatalf("Half(%d): %d", n, e)
	}
	is(t, "Half", got, new(big.Rat).SetFrac(big.NewInt(1), new(big.Int).Lsh(big.NewInt(1), uint(n))))
}

// P7.2: as long sums as registers come to.
func TestSumOfMany(t *testing.T) {
	sum, shares, share := rat.Of(0), rat.Of(0), rat.Of(1)
	want := new(big.Rat)
	for k := 1; k <= 120; k++ {
		sum = rat.Add(sum, frac(1, k))
		want.Add(want, big.NewRat(1, int64(k)))
		share = rat.Mul(share, frac(4096, 4097))
		shares = rat.Add(shares, rat.Mul(share, frac(1, 4097)))
	}
	is(t, "1 by 1 to 120", sum, want)
	left := rat.Sub(frac(4096, 4097), rat.Mul(share, frac(4096, 4097)))
	if rat.Cmp(shares, left) != 0 {
		t.Errorf("%.40s.., not %.40s..", shares.Text(), left.Text())
	}
}
