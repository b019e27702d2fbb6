package rat_test

import (
	"math"
	"math/big"
	"math/rand"
	"slices"
	"testing"

	"tallymark/api"
	"tallymark/nat"
	"tallymark/rat"
	"tallymark/whole"
)

const all = math.MaxUint64 // a word of which each bit is set

// natural tells a natural number as the library's.
func natural(a nat.Nat) *big.Int {
	n := new(big.Int)
	for _, w := range slices.Backward(a.Words()) {
		n.Lsh(n, 64).Or(n, new(big.Int).SetUint64(w))
	}
	return n
}

// number tells a whole number as the library's.
func number(x whole.Whole) *big.Int {
	n := natural(x.Abs())
	if x.Neg() {
		n.Neg(n)
	}
	return n
}

// value tells a fraction as the library's.
func value(x rat.Rat) *big.Rat { return new(big.Rat).SetFrac(number(x.Num()), natural(x.Den())) }

// is holds a fraction against the library's, which has no common divisor above
// and below the line, and 1 below that of 0.
func is(t *testing.T, what string, got rat.Rat, want *big.Rat) {
	t.Helper()
	num, den := number(got.Num()), natural(got.Den())
	if num.Cmp(want.Num()) != 0 || den.Cmp(want.Denom()) != 0 || got.Num().Neg() != (want.Sign() < 0) {
		t.Fatalf("%s: %s by %s, not %s", what, num, den, want)
	}
	if got.Whole() != want.IsInt() {
		t.Fatalf("%s: %s: Whole is %v", what, want, got.Whole())
	}
}

// none asks for the zero Rat, as it is beside an error.
func none(t *testing.T, what string, got rat.Rat, e, want api.Errno) {
	t.Helper()
	if e != want || !got.Num().Abs().Zero() || !got.Whole() {
		t.Errorf("%s: %s, %d, not %d", what, got.Text(), e, want)
	}
}

// frac makes a fraction of two ints, of which the second isn't 0.
func frac(p, q int) rat.Rat {
	x, e := rat.Make(p, q)
	if e != api.OK {
		panic("a fraction by 0")
	}
	return x
}

// digits makes a fraction of a text that the library reads, too.
func digits(s string) rat.Rat {
	n, ok := new(big.Rat).SetString(s)
	if !ok {
		panic(s)
	}
	num, _ := whole.Parse(n.Num().String())
	den, _ := whole.Parse(n.Denom().String())
	x, _ := rat.Frac(num, den)
	return x
}

// drawn is a natural number of so many words at most.
func drawn(chance *rand.Rand, most int) nat.Nat {
	words := make([]uint64, chance.Intn(most+1))
	for i := range words {
		switch chance.Intn(5) {
		case 0:
		case 1:
			words[i] = all
		default:
			words[i] = chance.Uint64() >> chance.Intn(64)
		}
	}
	return nat.Of(words...)
}

// signed is a whole number of so many words at most, of either sign.
func signed(chance *rand.Rand, most int) whole.Whole {
	return whole.Make(chance.Intn(2) == 0, drawn(chance, most))
}

// some is a fraction of so many words at most above and below the line.
func some(chance *rand.Rand, most int) rat.Rat {
	x, e := rat.Frac(signed(chance, most), signed(chance, most))
	if e != api.OK {
		return rat.Of(chance.Intn(5) - 2)
	}
	return x
}

// samples are fractions at the edges with both signs, and some that are drawn.
func samples() []rat.Rat {
	l := []rat.Rat{{}, rat.Nat(nat.Of(0, 1)), rat.Nat(nat.Of(all, all)), rat.Of(math.MaxInt), rat.Of(math.MinInt)}
	for p := range 7 {
		for q := 1; q <= 6; q++ {
			l = append(l, frac(p, q), frac(-p, q))
		}
	}
	for _, s := range []string{"1/12", "5/12", "7/18", "1/4096", "4095/4096", "18446744073709551616/3", "1/18446744073709551616", "3/18446744073709551616", "18446744073709551615/18446744073709551616", "18446744073709551617/18446744073709551616", "340282366920938463463374607431768211455/1208925819614629174706176", "9223372036854775808/9223372036854775807"} {
		l = append(l, digits(s), digits("-"+s))
	}
	chance := rand.New(rand.NewSource(1))
	for long := range 40 {
		l = append(l, some(chance, 1+long/6))
	}
	return l
}

// ints are arguments at the edges of what an int may be.
var ints = []int{math.MinInt, math.MinInt + 1, -1 << 32, -8193, -7, -2, -1, 0, 1, 2, 7, 8192, 1 << 32, math.MaxInt - 1, math.MaxInt}

// Layer 7: the zero Rat is 0, in each call.
func TestZero(t *testing.T) {
	var zero rat.Rat
	nought, half, x := new(big.Rat), big.NewRat(1, 2), frac(1, 2)
	is(t, "the zero Rat", zero, nought)
	if zero.Num().Neg() || !zero.Num().Abs().Zero() || natural(zero.Den()).Cmp(big.NewInt(1)) != 0 || !zero.Whole() {
		t.Errorf("%s by %s, Whole %v", zero.Num().Text(), zero.Den().Text(), zero.Whole())
	}
	is(t, "0 + 1/2", rat.Add(zero, x), half)
	is(t, "1/2 + 0", rat.Add(x, zero), half)
	is(t, "0 + 0", rat.Add(zero, zero), nought)
	is(t, "0 - 1/2", rat.Sub(zero, x), big.NewRat(-1, 2))
	is(t, "1/2 - 0", rat.Sub(x, zero), half)
	is(t, "0 - 0", rat.Sub(zero, zero), nought)
	is(t, "0 * 1/2", rat.Mul(zero, x), nought)
	is(t, "1/2 * 0", rat.Mul(x, zero), nought)
	is(t, "0 * 0", rat.Mul(zero, zero), nought)
	q, e := rat.Div(zero, x)
	is(t, "0 by 1/2", q, nought)
	if e != api.OK {
		t.Errorf("0 by 1/2: %d", e)
	}
	q, e = rat.Div(x, zero)
	none(t, "1/2 by 0", q, e, api.ErrDiv)
	q, e = rat.Div(zero, zero)
	none(t, "0 by 0", q, e, api.ErrDiv)
	p, e := rat.Pow(zero, 3)
	none(t, "0 to the 3", p, e, api.OK)
	if zero.Text() != "0" || !zero.Floor().Abs().Zero() || zero.Floor().Neg() {
		t.Errorf("Text %s, Floor %s", zero.Text(), zero.Floor().Text())
	}
	for _, o := range []rat.Rat{zero, rat.Of(0), rat.Nat(nat.Nat{}), frac(0, 5), frac(0, -5), rat.Sub(x, x), rat.Mul(x, zero)} {
		if rat.Cmp(zero, o) != 0 || rat.Cmp(o, zero) != 0 || rat.Cmp(zero, x) != -1 || rat.Cmp(x, zero) != 1 {
			t.Errorf("the zero Rat and %s", o.Text())
		}
	}
}

// P7.1: a fraction of each int, of the least one, too, and of natural numbers.
func TestOf(t *testing.T) {
	for _, n := range ints {
		is(t, "Of", rat.Of(n), new(big.Rat).SetInt64(int64(n)))
	}
	for _, a := range []nat.Nat{{}, nat.Of(1), nat.Of(2), nat.Of(1 << 63), nat.Of(all), nat.Of(0, 1), nat.Of(7, 8, 9)} {
		is(t, "Nat", rat.Nat(a), new(big.Rat).SetInt(natural(a)))
	}
}

// P7.1: of two ints, of each sign, without a common divisor; none by 0.
func TestMake(t *testing.T) {
	l := append([]int{-6, -4, -3, 3, 4, 6, 9, 12}, ints...)
	for _, p := range l {
		for _, q := range l {
			x, e := rat.Make(p, q)
			if q == 0 {
				none(t, "Make by 0", x, e, api.ErrDiv)
				continue
			}
			if e != api.OK {
				t.Errorf("Make(%d, %d): %d", p, q, e)
			}
			is(t, "Make", x, new(big.Rat).SetFrac(big.NewInt(int64(p)), big.NewInt(int64(q))))
		}
	}
}

// P7.1: numbers that are known, as they stand above and below the line.
func TestLine(t *testing.T) {
	for _, x := range []struct {
		p, q     int
		num, den string
	}{
		{1, 2, "1", "2"}, {-1, 2, "-1", "2"}, {1, -2, "-1", "2"}, {-1, -2, "1", "2"},
		{6, 4, "3", "2"}, {-6, 4, "-3", "2"}, {6, -4, "-3", "2"}, {-6, -4, "3", "2"},
		{6, 3, "2", "1"}, {-6, 3, "-2", "1"}, {6, -3, "-2", "1"}, {-6, -3, "2", "1"},
		{0, 1, "0", "1"}, {0, -1, "0", "1"}, {0, 7, "0", "1"}, {0, math.MinInt, "0", "1"},
		{5, 1, "5", "1"}, {5, -1, "-5", "1"}, {7, 7, "1", "1"}, {7, -7, "-1", "1"},
		{math.MinInt, 1, "-9223372036854775808", "1"}, {math.MinInt, -1, "9223372036854775808", "1"},
		{1, math.MinInt, "-1", "9223372036854775808"}, {-1, math.MinInt, "1", "9223372036854775808"},
		{math.MinInt, math.MinInt, "1", "1"}, {math.MinInt, 2, "-4611686018427387904", "1"},
		{6, math.MinInt, "-3", "4611686018427387904"}, {math.MaxInt, math.MinInt, "-9223372036854775807", "9223372036854775808"},
	} {
		y, e := rat.Make(x.p, x.q)
		if e != api.OK || y.Num().Text() != x.num || y.Den().Text() != x.den {
			t.Errorf("Make(%d, %d): %s by %s, %d", x.p, x.q, y.Num().Text(), y.Den().Text(), e)
		}
	}
}

// P7.1: of two numbers, of each sign, with common divisors of any length.
func TestFrac(t *testing.T) {
	chance := rand.New(rand.NewSource(2))
	for range 3000 {
		d, p, q := drawn(chance, 5), signed(chance, 5), signed(chance, 5)
		p, q = whole.Mul(p, whole.Make(chance.Intn(2) == 0, d)), whole.Mul(q, whole.Make(chance.Intn(2) == 0, d))
		x, e := rat.Frac(p, q)
		if q.Abs().Zero() {
			none(t, "Frac by 0", x, e, api.ErrDiv)
			continue
		}
		if e != api.OK {
			t.Fatalf("Frac(%s, %s): %d", p.Text(), q.Text(), e)
		}
		is(t, "Frac", x, new(big.Rat).SetFrac(number(p), number(q)))
	}
	for _, p := range []whole.Whole{{}, whole.Of(1), whole.Of(-1), whole.Of(math.MinInt)} {
		x, e := rat.Frac(p, whole.Whole{})
		none(t, "Frac by 0", x, e, api.ErrDiv)
	}
}

// P7.1: less, the same, more, of any two.
func TestCmp(t *testing.T) {
	for _, x := range samples() {
		for _, y := range samples() {
			if got, want := rat.Cmp(x, y), value(x).Cmp(value(y)); got != want {
				t.Errorf("Cmp(%s, %s): %d", x.Text(), y.Text(), got)
			}
		}
	}
	for _, x := range []struct {
		p, q, r, s int
		want       int
	}{
		{1, 2, 1, 3, 1}, {1, 3, 1, 2, -1}, {-1, 2, -1, 3, -1}, {-1, 3, -1, 2, 1},
		{1, 2, -1, 3, 1}, {-1, 2, 1, 3, -1}, {1, 2, 3, 6, 0}, {-1, 2, 3, -6, 0},
		{-4, -8, 1, 2, 0}, {6, 3, 2, 1, 0}, {0, 1, 0, -9, 0}, {0, 1, 1, 9, -1},
		{0, 1, -1, 9, 1}, {2, 3, 3, 4, -1}, {99, 100, 1, 1, -1}, {101, 100, 1, 1, 1},
		{math.MinInt, 2, math.MinInt, 2, 0}, {math.MinInt, 1, math.MaxInt, -1, -1},
		{math.MaxInt - 1, math.MaxInt, math.MaxInt, math.MinInt, 1},
	} {
		if got := rat.Cmp(frac(x.p, x.q), frac(x.r, x.s)); got != x.want {
			t.Errorf("Cmp of %d by %d and %d by %d: %d", x.p, x.q, x.r, x.s, got)
		}
	}
}

// P7.1: neighbours, of which the digits of a float don't tell which is more.
func TestCmpNear(t *testing.T) {
	great, e := nat.Pow(nat.Of(10), 300)
	if e != api.OK {
		t.Fatal(e)
	}
	next := nat.Add(great, nat.Of(1))
	x, _ := rat.Frac(whole.Make(false, great), whole.Make(false, next))
	y, _ := rat.Frac(whole.Make(false, next), whole.Make(false, nat.Add(next, nat.Of(1))))
	if rat.Cmp(x, y) != -1 || rat.Cmp(y, x) != 1 || rat.Cmp(x, rat.Of(1)) != -1 || rat.Cmp(y, y) != 0 {
		t.Errorf("%d, %d, %d", rat.Cmp(x, y), rat.Cmp(y, x), rat.Cmp(x, rat.Of(1)))
	}
}

// P7.1: the greatest whole number that isn't above.
func TestFloor(t *testing.T) {
	for _, x := range []struct {
		p, q  int
		want  string
		whole bool
	}{
		{0, 1, "0", true}, {1, 1, "1", true}, {-1, 1, "-1", true}, {7, 1, "7", true}, {-7, 1, "-7", true},
		{-5, 6, "-1", false}, {5, 6, "0", false}, {1, 2, "0", false}, {-1, 2, "-1", false},
		{7, 2, "3", false}, {-7, 2, "-4", false}, {8, 2, "4", true}, {-8, 2, "-4", true},
		{99, 100, "0", false}, {100, 100, "1", true}, {101, 100, "1", false},
		{-99, 100, "-1", false}, {-100, 100, "-1", true}, {-101, 100, "-2", false},
		{math.MinInt, 1, "-9223372036854775808", true}, {math.MinInt, -1, "9223372036854775808", true},
		{math.MinInt, math.MaxInt, "-2", false}, {math.MaxInt, math.MinInt, "-1", false}, {1, math.MinInt, "-1", false},
	} {
		y := frac(x.p, x.q)
		if got := y.Floor(); got.Text() != x.want || got.Neg() != (x.want[0] == '-') || y.Whole() != x.whole {
			t.Errorf("%s: Floor %s, Whole %v", y.Text(), got.Text(), y.Whole())
		}
	}
	for _, x := range samples() {
		for _, next := range []rat.Rat{x, rat.Nat(x.Den()), rat.Of(0)} {
			floors(t, rat.Add(x, next))
			floors(t, rat.Sub(rat.Of(3), x))
		}
	}
}

// floors holds Floor and Whole against their words.
func floors(t *testing.T, x rat.Rat) {
	t.Helper()
	v := value(x)
	low := new(big.Rat).SetInt(number(x.Floor()))
	if low.Cmp(v) > 0 || new(big.Rat).Add(low, big.NewRat(1, 1)).Cmp(v) <= 0 || x.Whole() != (low.Cmp(v) == 0) {
		t.Errorf("%s: Floor %s, Whole %v", v, low, x.Whole())
	}
}

// P7.1, rule 5: no call changes a fraction, nor does what the caller does to
// numbers that it was answered, or handed in.
func TestUnchanged(t *testing.T) {
	l := samples()
	var values []*big.Rat
	for _, x := range l {
		values = append(values, value(x))
	}
	for _, x := range l {
		for _, y := range l {
			rat.Cmp(x, y)
			q, _ := rat.Div(x, y)
			for _, z := range []rat.Rat{rat.Add(x, y), rat.Sub(x, y), rat.Mul(x, y), q} {
				clear(z.Num().Abs().Words())
				clear(z.Den().Words())
			}
		}
		rat.Pow(x, 3)
		rat.Parse(x.Text())
		clear(x.Num().Abs().Words())
		clear(x.Den().Words())
		clear(x.Floor().Abs().Words())
		whole.Add(x.Num(), whole.Of(1))
		nat.Add(x.Den(), nat.Of(1))
	}
	for i, x := range l {
		is(t, "a fraction that was handed in", x, values[i])
	}
	words := []uint64{5, 6}
	p := nat.Of(words...)
	x, y := rat.Nat(p), rat.Rat{}
	y, _ = rat.Frac(whole.Of(1), whole.Make(true, p))
	clear(words)
	clear(p.Words())
	if x.Text() != "110680464442257309701" || y.Text() != "-1/110680464442257309701" {
		t.Errorf("%s, %s", x.Text(), y.Text())
	}
}

// P1: each call ends without a panic, whatever it is given, and tells the
// same each time.
func TestEveryArgument(t *testing.T) {
	chance := rand.New(rand.NewSource(3))
	for range 2000 {
		x, y := some(chance, 4), some(chance, 4)
		n := int(chance.Uint64()) >> chance.Intn(64)
		p, e := rat.Pow(x, n)
		if again, f := rat.Pow(x, n); e != f || rat.Cmp(p, again) != 0 {
			t.Fatalf("%s to the %d", x.Text(), n)
		}
		if q, e := rat.Div(x, y); e == api.OK {
			is(t, "so often", rat.Mul(q, y), value(x))
		}
		if h, e := rat.Half(n); (e == api.OK) != (n >= 0 && n <= api.MaxNat) || e != api.OK && rat.Cmp(h, rat.Of(0)) != 0 {
			t.Fatalf("Half(%d): %s, %d", n, h.Text(), e)
		}
		floors(t, x)
		s := []byte(x.Text())
		s[chance.Intn(len(s))] = byte(chance.Intn(256))
		if z, e := rat.Parse(string(s)); e == api.OK && z.Text() != string(s) || e != api.OK && rat.Cmp(z, rat.Of(0)) != 0 {
			t.Fatalf("Parse(%q): %s, %d", s, z.Text(), e)
		}
	}
}
