package nat_test

import (
	"math"
	"math/big"
	"math/rand"
	"strings"
	"testing"

	"tallymark/api"
	"tallymark/nat"
)

// told holds a number's text against the library's, and reads it back.
func told(t *testing.T, a nat.Nat) {
	t.Helper()
	s := a.Text()
	if want := value(a).String(); s != want {
		t.Fatalf("%x: %s, not %s", a.Words(), s, want)
	}
	back, e := nat.Parse(s)
	if len(s) > 2000 {
		if e != api.ErrSize || !back.Zero() {
			t.Fatalf("Parse of %d bytes: %d", len(s), e)
		}
		return
	}
	if e != api.OK || nat.Cmp(back, a) != 0 {
		t.Fatalf("Parse(%s): %x, %d", s, back.Words(), e)
	}
}

// P5.4: texts around the powers of 10 and of 2 to the 64, and of others.
func TestText(t *testing.T) {
	for _, a := range samples() {
		told(t, a)
	}
	ten := big.NewInt(10)
	for n := range 200 {
		around(t, number(new(big.Int).Exp(ten, big.NewInt(int64(n)), nil)))
		around(t, shifted(nat.Of(1), 64*n/4))
	}
	for _, n := range []int{1999, 2000, 2001} {
		around(t, number(new(big.Int).Exp(ten, big.NewInt(int64(n)), nil)))
	}
	for _, x := range []struct {
		a    nat.Nat
		want string
	}{
		{nat.Nat{}, "0"},
		{nat.Of(7), "7"},
		{nat.Of(all), "18446744073709551615"},
		{nat.Of(0, 1), "18446744073709551616"},
		{nat.Of(1, 1), "18446744073709551617"},
		{nat.Of(10_000_000_000_000_000_000), "10000000000000000000"},
		{nat.Of(0, 0, 1), "340282366920938463463374607431768211456"},
	} {
		if got := x.a.Text(); got != x.want {
			t.Errorf("%x: %s", x.a.Words(), got)
		}
	}
}

// around tells a number that isn't 0, the one below it, and the one above.
func around(t *testing.T, a nat.Nat) {
	t.Helper()
	told(t, short(a, 1))
	told(t, a)
	told(t, nat.Add(a, nat.Of(1)))
}

// P5.4: digits that are 0 within a number stay, at each place.
func TestTextNoughts(t *testing.T) {
	for n := range 120 {
		for _, s := range []string{"1" + strings.Repeat("0", n) + "1", strings.Repeat("9", n+1), "10" + strings.Repeat("01", n)} {
			if a, e := nat.Parse(s); e != api.OK || a.Text() != s {
				t.Errorf("%s: %s, %d", s, a.Text(), e)
			}
		}
	}
}

// P5.4: a text that Parse reads is just the one that Text tells.
func TestParse(t *testing.T) {
	chance := rand.New(rand.NewSource(5))
	for long := 1; long <= 2000; long += 1 + long/20 {
		digits := make([]byte, long)
		for i := range digits {
			digits[i] = '0' + byte(chance.Intn(10))
		}
		digits[0] = '1' + byte(chance.Intn(9))
		a, e := nat.Parse(string(digits))
		want, _ := new(big.Int).SetString(string(digits), 10)
		if e != api.OK || a.Text() != string(digits) {
			t.Fatalf("%s: %s, %d", digits, a.Text(), e)
		}
		is(t, "Parse", a, want)
	}
	if a, e := nat.Parse("0"); e != api.OK || !a.Zero() {
		t.Errorf("0: %x, %d", a.Words(), e)
	}
}

// P5.4: no digits, another byte, a 0 ahead of others.
func TestParseForm(t *testing.T) {
	l := []string{"", "+", "-", "+1", "-1", "-0", "00", "01", "007", "0" + strings.Repeat("0", 1999), "0" + strings.Repeat("1", 1999),
		" ", " 1", "1 ", "1\n", "1_000", "1.0", "1e3", "0x1", "0b1", "a", "1a", "½", "١", "1\x00", "\x00", "\xff", "1/2", "12345678901234567890x"}
	for _, long := range []int{1, 2, 18, 19, 20, 38, 40, 2000} {
		for _, at := range []int{0, 1, 2, 17, 18, 19, 20, 37, 38, 39, 1980, 1981, 1999} {
			for c := range 256 {
				if at >= long || c >= '0' && c <= '9' {
					continue
				}
				digits := []byte(strings.Repeat("5", long))
				digits[at] = byte(c)
				l = append(l, string(digits))
			}
		}
	}
	for _, s := range l {
		if a, e := nat.Parse(s); e != api.ErrForm || !a.Zero() {
			t.Fatalf("%q: %x, %d", s, a.Words(), e)
		}
	}
}

// P5.4: of more than 2000 bytes it is ErrSize, whatever they are.
func TestParseSize(t *testing.T) {
	for _, c := range []string{"0", "1", "9", "-", "x", " ", "\x00", "\xff"} {
		for _, long := range []int{2001, 2002, 2020, 5000, 1 << 20} {
			if a, e := nat.Parse(strings.Repeat(c, long)); e != api.ErrSize || !a.Zero() {
				t.Errorf("%d times %q: %d bits, %d", long, c, a.Bits(), e)
			}
		}
	}
	nines := strings.Repeat("9", 2000)
	if a, e := nat.Parse(nines); e != api.OK || a.Text() != nines {
		t.Errorf("2000 nines: %d bits, %d", a.Bits(), e)
	}
	if a, e := nat.Parse(nines[:1999] + "x"); e != api.ErrForm || !a.Zero() {
		t.Errorf("2000 bytes, another one at the end: %d", e)
	}
}

// P1: each call ends without a panic, whatever it is given.
func TestEveryArgument(t *testing.T) {
	chance := rand.New(rand.NewSource(6))
	for range 3000 {
		a, b := drawn(chance, 5), drawn(chance, 5)
		n := ints[chance.Intn(len(ints))]
		if chance.Intn(2) == 0 {
			n = int(chance.Uint64()) >> chance.Intn(64)
		}
		if nat.Cmp(a, b) != -nat.Cmp(b, a) || a.Int(n) > max(n, 0) || a.Int(n) < 0 {
			t.Fatalf("%x, %x, %d: %d, %d", a.Words(), b.Words(), n, nat.Cmp(a, b), a.Int(n))
		}
		a.Bit(n)
		if up, e := nat.Shl(a, n); (e == api.OK) != (n >= 0 && n <= 8192) || e != api.OK && !up.Zero() {
			t.Fatalf("Shl by %d: %d", n, e)
		}
		if left := nat.Shr(a, n); nat.Cmp(left, a) > 0 {
			t.Fatalf("Shr by %d: %x", n, left.Words())
		}
		if p, e := nat.Pow(a, n); e != api.OK && !p.Zero() || (e == api.ErrRange) != (n < 0) {
			t.Fatalf("Pow to the %d: %d", n, e)
		}
		common(t, a, b)
		divided(t, a, b)
		s := []byte(a.Text())
		s[chance.Intn(len(s))] = byte(chance.Intn(256))
		if c, e := nat.Parse(string(s)); e == api.OK && c.Text() != string(s) || e != api.OK && !c.Zero() {
			t.Fatalf("Parse(%q): %x, %d", s, c.Words(), e)
		}
	}
	if got := nat.Of(1).Int(math.MinInt); got != 0 {
		t.Errorf("Int of the least int: %d", got)
	}
}
