package nat_test

import (
	"math"
	"math/big"
	"math/rand"
	"slices"
	"testing"

	"tallymark/api"
	"tallymark/nat"
)

// P5.3: times 2 to the n, and back.
func TestShift(t *testing.T) {
	for _, a := range samples() {
		for _, n := range []int{0, 1, 2, 31, 62, 63, 64, 65, 127, 128, 129, 1000, 8191, 8192} {
			up, e := nat.Shl(a, n)
			if e != api.OK {
				t.Fatalf("Shl by %d: %d", n, e)
			}
			is(t, "Shl", up, new(big.Int).Lsh(value(a), uint(n)))
			is(t, "Shr", nat.Shr(a, n), new(big.Int).Rsh(value(a), uint(n)))
			if nat.Cmp(nat.Shr(up, n), a) != 0 {
				t.Errorf("%x, %d up and down: %x", a.Words(), n, nat.Shr(up, n).Words())
			}
		}
	}
}

// P5.3: n below 0 and above MaxNat, of 0, too.
func TestShlRange(t *testing.T) {
	for _, a := range []nat.Nat{{}, nat.Of(1), nat.Of(1, 2, 3)} {
		for _, n := range []int{math.MinInt, -8192, -64, -1, 8193, 1 << 20, math.MaxInt} {
			if up, e := nat.Shl(a, n); e != api.ErrRange || !up.Zero() {
				t.Errorf("Shl of %x by %d: %x, %d", a.Words(), n, up.Words(), e)
			}
		}
	}
	if up, e := nat.Shl(nat.Of(3), 8192); e != api.OK || up.Bits() != 8194 || !up.Bit(8192) || up.Bit(8191) {
		t.Errorf("Shl of 3 by 8192: %d bits, %d", up.Bits(), e)
	}
}

// P5.3: below 0 counts as 0; of more bits than there are nothing is left.
func TestShrEdges(t *testing.T) {
	for _, a := range samples() {
		for _, n := range []int{math.MinInt, -65, -64, -1, 0} {
			is(t, "Shr below 0", nat.Shr(a, n), value(a))
		}
		for _, n := range []int{a.Bits(), a.Bits() + 1, a.Bits() + 63, a.Bits() + 64, a.Bits() + 65, 1 << 30, math.MaxInt - 63, math.MaxInt} {
			if left := nat.Shr(a, n); !left.Zero() {
				t.Errorf("%x by %d: %x", a.Words(), n, left.Words())
			}
		}
		if !a.Zero() {
			is(t, "Shr to its highest bit", nat.Shr(a, a.Bits()-1), big.NewInt(1))
		}
	}
}

// P5.3: powers, as far as MaxNat bits.
func TestPow(t *testing.T) {
	for _, a := range samples() {
		for _, n := range []int{0, 1, 2, 3, 4, 5, 7, 8, 15, 16, 17, 64, 100, 127, 128, 129, 1000, 4096, 5000, 8191, 8192, 8193} {
			got, e := nat.Pow(a, n)
			if a.Bits() > 1 && a.Bits()*n > 8192 {
				if e != api.ErrSize || !got.Zero() {
					t.Fatalf("%x to the %d: %x, %d", a.Words(), n, got.Words(), e)
				}
				continue
			}
			if e != api.OK {
				t.Fatalf("%x to the %d: %d", a.Words(), n, e)
			}
			is(t, "power", got, new(big.Int).Exp(value(a), big.NewInt(int64(n)), nil))
		}
	}
}

// P5.3: 0 and 1 have all powers; n below 0 has none.
func TestPowEdges(t *testing.T) {
	for _, x := range []struct {
		a    nat.Nat
		n    int
		want uint64
		e    api.Errno
	}{
		{nat.Of(0), 0, 1, api.OK},
		{nat.Of(0), 1, 0, api.OK},
		{nat.Of(0), 8193, 0, api.OK},
		{nat.Of(0), math.MaxInt, 0, api.OK},
		{nat.Of(1), 0, 1, api.OK},
		{nat.Of(1), 1, 1, api.OK},
		{nat.Of(1), 8193, 1, api.OK},
		{nat.Of(1), math.MaxInt, 1, api.OK},
		{nat.Of(7), 0, 1, api.OK},
		{nat.Of(0, 0, 7), 0, 1, api.OK},
		{nat.Of(0), -1, 0, api.ErrRange},
		{nat.Of(1), -1, 0, api.ErrRange},
		{nat.Of(2), -1, 0, api.ErrRange},
		{nat.Of(0), math.MinInt, 0, api.ErrRange},
		{nat.Of(1), math.MinInt, 0, api.ErrRange},
		{nat.Of(5, 5), math.MinInt, 0, api.ErrRange},
		{nat.Of(2), 4097, 0, api.ErrSize},
		{nat.Of(2), math.MaxInt, 0, api.ErrSize},
		{nat.Of(3), math.MaxInt/2 + 1, 0, api.ErrSize}, // 2 bits so often are below 0, if they wrap
		{nat.Of(8), math.MaxInt/2 + 1, 0, api.ErrSize}, // 4 bits so often are 0, if they wrap
		{nat.Of(0, 0, 7), math.MaxInt, 0, api.ErrSize},
	} {
		if got, e := nat.Pow(x.a, x.n); e != x.e || nat.Cmp(got, nat.Of(x.want)) != 0 {
			t.Errorf("%x to the %d: %x, %d", x.a.Words(), x.n, got.Words(), e)
		}
	}
}

// P5.3: a's Bits times n are held against MaxNat, whatever the power's are.
func TestPowSize(t *testing.T) {
	for _, x := range []struct {
		a nat.Nat
		n int
		e api.Errno
	}{
		{nat.Of(2), 4096, api.OK}, {nat.Of(2), 4097, api.ErrSize},
		{nat.Of(3), 4096, api.OK}, {nat.Of(3), 4097, api.ErrSize},
		{nat.Of(4), 2730, api.OK}, {nat.Of(4), 2731, api.ErrSize},
		{nat.Of(all), 128, api.OK}, {nat.Of(all), 129, api.ErrSize},
		{nat.Of(0, 1), 126, api.OK}, {nat.Of(0, 1), 127, api.ErrSize},
		{shifted(nat.Of(1), 8191), 1, api.OK}, {shifted(nat.Of(1), 8192), 1, api.ErrSize},
		{shifted(nat.Of(1), 4095), 2, api.OK}, {shifted(nat.Of(1), 4096), 2, api.ErrSize},
		{shifted(nat.Of(1), 8191), 2, api.ErrSize}, {shifted(nat.Of(1), 20000), 0, api.OK},
	} {
		got, e := nat.Pow(x.a, x.n)
		if e != x.e || e != api.OK && !got.Zero() {
			t.Fatalf("%d bits to the %d: %d bits, %d", x.a.Bits(), x.n, got.Bits(), e)
		}
		if e == api.OK {
			is(t, "power", got, new(big.Int).Exp(value(x.a), big.NewInt(int64(x.n)), nil))
		}
	}
}

// P5.3: the greatest that divides both, in both orders.
func TestGcd(t *testing.T) {
	l := samples()
	for _, a := range l {
		for _, b := range l {
			common(t, a, b)
		}
	}
}

func common(t *testing.T, a, b nat.Nat) {
	t.Helper()
	want := new(big.Int).GCD(nil, nil, value(a), value(b))
	is(t, "Gcd", nat.Gcd(a, b), want)
	is(t, "Gcd, turned", nat.Gcd(b, a), want)
}

// P5.3: 0 is divided by all.
func TestGcdZero(t *testing.T) {
	for _, a := range samples() {
		is(t, "of 0 and it", nat.Gcd(nat.Nat{}, a), value(a))
		is(t, "of it and 0", nat.Gcd(a, nat.Nat{}), value(a))
		is(t, "of it and it", nat.Gcd(a, a), value(a))
	}
	if got := nat.Gcd(nat.Nat{}, nat.Nat{}); !got.Zero() {
		t.Errorf("of 0 and 0: %x", got.Words())
	}
	if got := nat.Gcd(nat.Of(12), nat.Of(18)); !slices.Equal(got.Words(), []uint64{6}) {
		t.Errorf("of 12 and 18: %x", got.Words())
	}
}

// P5.3: common divisors of all lengths, between numbers of all lengths.
func TestGcdDrawn(t *testing.T) {
	chance := rand.New(rand.NewSource(3))
	for range 4000 {
		d := drawn(chance, 8)
		common(t, nat.Mul(d, drawn(chance, 12)), nat.Mul(d, drawn(chance, 12)))
	}
	for range 20 {
		d := drawn(chance, 60)
		common(t, nat.Mul(d, drawn(chance, 150)), nat.Mul(d, drawn(chance, 150)))
	}
}

// P5.3: numbers of which each quotient on Euclid's way is 1, or any other one,
// and of which the first is as great as may be.
func TestGcdQuotients(t *testing.T) {
	chance := rand.New(rand.NewSource(4))
	for _, greatest := range []uint64{1, 2, 1 << 16, 1 << 31, 1 << 32, 1 << 33, all} {
		a, b := nat.Of(1), nat.Nat{}
		for range 700 {
			a, b = nat.Add(nat.Mul(a, nat.Of(1+chance.Uint64()%greatest)), b), a
			common(t, a, b)
			if a.Bits() > 3000 {
				break
			}
		}
		common(t, nat.Add(shifted(b, 5000), a), b)
	}
	one := nat.Of(1)
	for _, n := range []int{1, 63, 64, 65, 128, 500} {
		power := shifted(one, n)
		for _, b := range []nat.Nat{short(power, 1), nat.Add(power, one), shifted(power, 1), nat.Mul(power, nat.Of(3))} {
			common(t, power, b)
		}
	}
}
