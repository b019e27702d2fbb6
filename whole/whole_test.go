package whole_test

import (
	"math"
	"math/big"
	"math/rand"
	"slices"
	"strings"
	"testing"

	"tallymark/api"
	"tallymark/nat"
	"tallymark/whole"
)

const all = math.MaxUint64 // a word of which each bit is set

// value tells a number as the library's.
func value(x whole.Whole) *big.Int {
	n := new(big.Int)
	for _, w := range slices.Backward(x.Abs().Words()) {
		n.Lsh(n, 64).Or(n, new(big.Int).SetUint64(w))
	}
	if x.Neg() {
		n.Neg(n)
	}
	return n
}

// is holds a number against the library's; 0 has no sign.
func is(t *testing.T, what string, got whole.Whole, want *big.Int) {
	t.Helper()
	if value(got).Cmp(want) != 0 || got.Neg() != (want.Sign() < 0) {
		t.Fatalf("%s: %s (below 0: %v), not %s", what, got.Text(), got.Neg(), want)
	}
}

// drawn is a number of so many words at most, of either sign.
func drawn(chance *rand.Rand, most int) whole.Whole {
	words := make([]uint64, chance.Intn(most+1))
	for i := range words {
		switch chance.Intn(4) {
		case 0:
		case 1:
			words[i] = all
		default:
			words[i] = chance.Uint64() >> chance.Intn(64)
		}
	}
	return whole.Make(chance.Intn(2) == 0, nat.Of(words...))
}

// samples are numbers at the edges, and some that are drawn, with both signs.
func samples() []whole.Whole {
	var l []whole.Whole
	for _, a := range []nat.Nat{{}, nat.Of(1), nat.Of(2), nat.Of(7), nat.Of(1<<63 - 1), nat.Of(1 << 63), nat.Of(1<<63 + 1), nat.Of(all), nat.Of(0, 1), nat.Of(1, 1), nat.Of(all, all), nat.Of(0, 0, 1)} {
		l = append(l, whole.Make(false, a), whole.Make(true, a))
	}
	chance := rand.New(rand.NewSource(1))
	for long := range 40 {
		l = append(l, drawn(chance, 1+long/8))
	}
	return l
}

// P6.1: a number of each int, of the least one, too.
func TestOf(t *testing.T) {
	for _, n := range []int{0, 1, -1, 7, -7, 1 << 32, -1 << 32, math.MaxInt, -math.MaxInt, math.MinInt, math.MinInt + 1} {
		x := whole.Of(n)
		is(t, "Of", x, big.NewInt(int64(n)))
		if x.Neg() != (n < 0) {
			t.Errorf("Of(%d): below 0 is %v", n, x.Neg())
		}
	}
	if got := whole.Of(math.MinInt).Abs().Words(); !slices.Equal(got, []uint64{1 << 63}) {
		t.Errorf("Of the least int: words %x", got)
	}
}

// P6.1: a number with a sign, which 0 hasn't.
func TestMake(t *testing.T) {
	for _, words := range [][]uint64{{1}, {7}, {all}, {0, 1}, {all, all, 5}} {
		for _, neg := range []bool{false, true} {
			x := whole.Make(neg, nat.Of(words...))
			if x.Neg() != neg || !slices.Equal(x.Abs().Words(), words) {
				t.Errorf("Make(%v, %x): %v, %x", neg, words, x.Neg(), x.Abs().Words())
			}
		}
	}
	for _, x := range []whole.Whole{{}, whole.Of(0), whole.Make(false, nat.Nat{}), whole.Make(true, nat.Nat{}), whole.Make(true, nat.Of(0, 0)), whole.Minus(whole.Make(true, nat.Nat{}))} {
		if x.Neg() || !x.Abs().Zero() || x.Text() != "0" || whole.Cmp(x, whole.Whole{}) != 0 || whole.Cmp(whole.Whole{}, x) != 0 {
			t.Errorf("0: below 0 %v, words %x, %s", x.Neg(), x.Abs().Words(), x.Text())
		}
	}
}

// P6.1: less, the same, more, with each sign of both.
func TestCmp(t *testing.T) {
	for _, x := range samples() {
		for _, y := range samples() {
			if got, want := whole.Cmp(x, y), value(x).Cmp(value(y)); got != want {
				t.Errorf("Cmp(%s, %s): %d", x.Text(), y.Text(), got)
			}
		}
	}
	for _, l := range [][3]int{{-2, -1, -1}, {-1, -2, 1}, {-1, 0, -1}, {0, -1, 1}, {-2, 1, -1}, {1, -2, 1}, {0, 1, -1}, {1, 0, 1}, {1, 2, -1}, {2, 1, 1}, {-1, -1, 0}, {1, 1, 0}, {-1, 1, -1}, {0, 0, 0}} {
		if got := whole.Cmp(whole.Of(l[0]), whole.Of(l[1])); got != l[2] {
			t.Errorf("Cmp(%d, %d): %d", l[0], l[1], got)
		}
	}
}

// P6.2: sums, differences and products, with each sign of both.
func TestSums(t *testing.T) {
	for _, x := range samples() {
		is(t, "Minus", whole.Minus(x), new(big.Int).Neg(value(x)))
		is(t, "x - x", whole.Sub(x, x), new(big.Int))
		is(t, "x - x as a sum", whole.Add(x, whole.Minus(x)), new(big.Int))
		for _, y := range samples() {
			is(t, "Add", whole.Add(x, y), new(big.Int).Add(value(x), value(y)))
			is(t, "Sub", whole.Sub(x, y), new(big.Int).Sub(value(x), value(y)))
			is(t, "Mul", whole.Mul(x, y), new(big.Int).Mul(value(x), value(y)))
		}
	}
}

// divided holds a quotient and its rest against the library's.
func divided(t *testing.T, x, y whole.Whole) {
	t.Helper()
	q, r, e := whole.DivMod(x, y)
	if y.Abs().Zero() {
		if e != api.ErrDiv || !q.Abs().Zero() || !r.Abs().Zero() {
			t.Fatalf("%s by 0: %s, %s, %d", x.Text(), q.Text(), r.Text(), e)
		}
		return
	}
	want, rest := new(big.Int).DivMod(value(x), value(y), new(big.Int))
	if e != api.OK {
		t.Fatalf("%s by %s: %d", x.Text(), y.Text(), e)
	}
	is(t, "quotient", q, want)
	is(t, "rest", r, rest)
	if r.Neg() || nat.Cmp(r.Abs(), y.Abs()) >= 0 || whole.Cmp(whole.Add(whole.Mul(q, y), r), x) != 0 {
		t.Fatalf("%s isn't %s times %s, and %s", x.Text(), q.Text(), y.Text(), r.Text())
	}
}

// P6.2: quotients, with each sign of both, and with no rest.
func TestDivMod(t *testing.T) {
	for _, x := range samples() {
		for _, y := range samples() {
			divided(t, x, y)
			divided(t, whole.Mul(x, y), y)
			divided(t, whole.Add(whole.Mul(x, y), whole.Of(1)), y)
			divided(t, whole.Sub(whole.Mul(x, y), whole.Of(1)), y)
		}
	}
}

// P6.2: the examples of the chapter, and others by hand.
func TestDivModExamples(t *testing.T) {
	for _, l := range [][4]int{
		{-7, 2, -4, 1}, {-7, -2, 4, 1}, {7, 2, 3, 1}, {7, -2, -3, 1},
		{-6, 2, -3, 0}, {-6, -2, 3, 0}, {6, 2, 3, 0}, {6, -2, -3, 0},
		{-1, 5, -1, 4}, {-1, -5, 1, 4}, {1, 5, 0, 1}, {1, -5, 0, 1},
		{0, 5, 0, 0}, {0, -5, 0, 0}, {-5, 1, -5, 0}, {-5, -1, 5, 0},
		{math.MinInt, 1, math.MinInt, 0}, {math.MinInt, math.MinInt, 1, 0}, {math.MaxInt, math.MinInt, 0, math.MaxInt},
	} {
		q, r, e := whole.DivMod(whole.Of(l[0]), whole.Of(l[1]))
		if e != api.OK || whole.Cmp(q, whole.Of(l[2])) != 0 || whole.Cmp(r, whole.Of(l[3])) != 0 {
			t.Errorf("%d by %d: %s, %s, %d", l[0], l[1], q.Text(), r.Text(), e)
		}
	}
	q, r, e := whole.DivMod(whole.Of(math.MinInt), whole.Of(-1))
	if e != api.OK || q.Text() != "9223372036854775808" || r.Text() != "0" {
		t.Errorf("the least int by -1: %s, %s, %d", q.Text(), r.Text(), e)
	}
	for _, n := range []int{0, 1, -1, math.MinInt} {
		if q, r, e := whole.DivMod(whole.Of(n), whole.Whole{}); e != api.ErrDiv || q.Text() != "0" || r.Text() != "0" {
			t.Errorf("%d by 0: %s, %s, %d", n, q.Text(), r.Text(), e)
		}
	}
}

// P6.3: digits, behind a - if it is below 0, and back.
func TestText(t *testing.T) {
	for _, x := range samples() {
		s := x.Text()
		if want := value(x).String(); s != want {
			t.Errorf("%s, not %s", s, want)
		}
		if back, e := whole.Parse(s); e != api.OK || whole.Cmp(back, x) != 0 || back.Neg() != x.Neg() {
			t.Errorf("Parse(%s): %s, %d", s, back.Text(), e)
		}
	}
	for _, s := range []string{"0", "1", "-1", "10", "-10", "-18446744073709551616", "-9223372036854775808", strings.Repeat("9", 2000), "-" + strings.Repeat("9", 2000)} {
		if x, e := whole.Parse(s); e != api.OK || x.Text() != s || x.Neg() != (s[0] == '-') {
			t.Errorf("Parse(%s): %s, %d", s, x.Text(), e)
		}
	}
}

// P6.3: layer 5's errors, of what is behind the -.
func TestParseErrors(t *testing.T) {
	l := map[string]api.Errno{}
	for _, s := range []string{"", "-", "--", "--1", "-0", "--0", "-00", "-01", "00", "01", "+", "+1", "-+1", "+-1", "1-", "-1-", " 1", "- 1", "-1 ", "-x", "x", "1x", "−1", "-\x00", "-1/2"} {
		l[s] = api.ErrForm
	}
	l["-"+strings.Repeat("1", 1999)+"x"] = api.ErrForm
	l["-"+strings.Repeat("-", 2000)] = api.ErrForm
	l["-"+strings.Repeat("0", 2000)] = api.ErrForm
	l["-"+strings.Repeat("-", 2001)] = api.ErrSize
	l["-"+strings.Repeat("0", 2001)] = api.ErrSize
	l["-"+strings.Repeat("9", 2001)] = api.ErrSize
	l[strings.Repeat("9", 2001)] = api.ErrSize
	l[strings.Repeat("x", 2001)] = api.ErrSize
	for s, want := range l {
		if x, e := whole.Parse(s); e != want || x.Neg() || !x.Abs().Zero() {
			t.Errorf("%.30q, %d bytes: %s, %d, not %d", s, len(s), x.Text(), e, want)
		}
	}
}

// Layer 6, rule 5: no call changes a number, nor does what the caller does to
// lists that it was answered, or handed in.
func TestUnchanged(t *testing.T) {
	l := samples()
	var values []*big.Int
	for _, x := range l {
		values = append(values, value(x))
	}
	for _, x := range l {
		for _, y := range l {
			whole.Add(x, y)
			whole.Sub(x, y)
			whole.Mul(x, y)
			q, r, _ := whole.DivMod(x, y)
			clear(q.Abs().Words())
			clear(r.Abs().Words())
		}
		clear(x.Abs().Words())
		clear(whole.Minus(x).Abs().Words())
		x.Text()
	}
	for i, x := range l {
		is(t, "a number that was handed in", x, values[i])
	}
	words := []uint64{5, 6}
	x := whole.Make(true, nat.Of(words...))
	clear(words)
	if got := x.Abs().Words(); !slices.Equal(got, []uint64{5, 6}) {
		t.Errorf("words %x", got)
	}
}

// P1: each call ends without a panic, whatever it is given.
func TestEveryArgument(t *testing.T) {
	chance := rand.New(rand.NewSource(2))
	for range 5000 {
		x, y := drawn(chance, 5), drawn(chance, 5)
		if whole.Cmp(x, y) != -whole.Cmp(y, x) || whole.Cmp(x, y) != value(whole.Sub(x, y)).Sign() {
			t.Fatalf("Cmp(%s, %s): %d", x.Text(), y.Text(), whole.Cmp(x, y))
		}
		divided(t, x, y)
		divided(t, x, whole.Of(int(chance.Uint64())>>chance.Intn(64)))
		s := []byte(x.Text())
		s[chance.Intn(len(s))] = byte(chance.Intn(256))
		if z, e := whole.Parse(string(s)); e == api.OK && z.Text() != string(s) || e != api.OK && (z.Neg() || !z.Abs().Zero()) {
			t.Fatalf("Parse(%q): %s, %d", s, z.Text(), e)
		}
	}
}
