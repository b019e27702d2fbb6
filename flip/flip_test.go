package flip_test

import (
	"math"
	"math/big"
	"math/rand"
	"slices"
	"strings"
	"testing"

	"tallymark/api"
	"tallymark/flip"
	"tallymark/nat"
	"tallymark/rat"
	"tallymark/tape"
	"tallymark/whole"
)

// call is one of the layer's calls, its other arguments given.
type call func(t *tape.Tape) (bool, api.Errno)

func half(k int) call {
	return func(t *tape.Tape) (bool, api.Errno) { return flip.Half(t, k) }
}

func ratio(p, q uint64) call { return ratioOf(nat.Of(p), nat.Of(q)) }

func ratioOf(p, q nat.Nat) call {
	return func(t *tape.Tape) (bool, api.Errno) { return flip.Ratio(t, p, q) }
}

func power(p, q uint64, k int) call { return powerOf(nat.Of(p), nat.Of(q), k) }

func powerOf(p, q nat.Nat, k int) call {
	return func(t *tape.Tape) (bool, api.Errno) { return flip.Power(t, p, q, k) }
}

func chanceOf(x rat.Rat) call {
	return func(t *tape.Tape) (bool, api.Errno) { return flip.Chance(t, x) }
}

// frac makes a fraction of two ints, of which the second isn't 0.
func frac(p, q int) rat.Rat {
	x, e := rat.Make(p, q)
	if e != api.OK {
		panic("a fraction by 0")
	}
	return x
}

// coinsOf tells the coins of a text, 1 for yes.
func coinsOf(text string) []bool {
	coins := make([]bool, len(text))
	for i := range text {
		coins[i] = text[i] == '1'
	}
	return coins
}

// answers asks for what a call answers of these coins, and how many of them it
// takes. P2: of those alone it answers the same, of fewer it has too few, and
// more of them, or other ones behind, change nothing.
func answers(t *testing.T, what string, ask call, text string, yes bool, read int) {
	t.Helper()
	coins := coinsOf(text)
	other := append(slices.Clone(coins[:read]), coinsOf("0110")...)
	for _, l := range [][]bool{coins, coins[:read], append(coinsOf(text), coinsOf("10")...), other} {
		x := tape.New(l...)
		got, e := ask(x)
		if got != yes || e != api.OK || x.Read() != read || x.Dead() {
			t.Fatalf("%s of %s: %v, %d, %d read, dead %v; not %v of %d coins", what, text, got, e, x.Read(), x.Dead(), yes, read)
		}
		if x.Left() != len(l)-read {
			t.Fatalf("%s of %s: %d coins are left", what, text, x.Left())
		}
	}
	for n := 0; n < read; n += 1 + read/20 {
		tooFew(t, what, ask, text[:n])
	}
	if read > 0 {
		tooFew(t, what, ask, text[:read-1])
	}
}

// tooFew asks for ErrTape: all coins are gone, and the tape is dead.
func tooFew(t *testing.T, what string, ask call, text string) {
	t.Helper()
	x := tape.New(coinsOf(text)...)
	for range 2 {
		yes, e := ask(x)
		if yes || e != api.ErrTape || x.Read() != len(text) || x.Left() != 0 || !x.Dead() {
			t.Fatalf("%s of %s: %v, %d, %d read, dead %v; not ErrTape", what, text, yes, e, x.Read(), x.Dead())
		}
	}
}

// kill takes all coins of a tape, and one more.
func kill(x *tape.Tape) {
	for range x.Left() + 1 {
		x.Flip()
	}
}

// refuses asks for ErrRange, without a coin: of a tape that is dead, too.
func refuses(t *testing.T, what string, ask call) {
	t.Helper()
	for _, text := range []string{"", "0", "1", "0101", "1111"} {
		x := tape.New(coinsOf(text)...)
		for _, dead := range []bool{false, true} {
			if yes, e := ask(x); yes || e != api.ErrRange || x.Dead() != dead {
				t.Fatalf("%s of %s, dead %v: %v, %d", what, text, dead, yes, e)
			}
			if !dead && (x.Read() != 0 || x.Left() != len(text)) {
				t.Fatalf("%s of %s: %d coins read", what, text, x.Read())
			}
			kill(x)
		}
	}
}

// coinless asks for an answer without a coin: of a tape that is dead, too,
// which stays so.
func coinless(t *testing.T, what string, ask call, yes bool) {
	t.Helper()
	for _, text := range []string{"", "0", "1", "0101", "1111"} {
		answers(t, what, ask, text, yes, 0)
	}
	x := tape.New(true, false)
	kill(x)
	if got, e := ask(x); got != yes || e != api.OK || !x.Dead() || x.Read() != 2 {
		t.Fatalf("%s of a dead tape: %v, %d", what, got, e)
	}
}

// P10.1: the example of the chapter.
func TestExample(t *testing.T) {
	answers(t, "1 by 3", ratio(1, 3), "1", false, 1)
	answers(t, "1 by 3", ratio(1, 3), "00", true, 2)
	answers(t, "1 by 3", ratio(1, 3), "011", false, 3)
}

// P10.1: Half takes coins till one is no, or k of them were yes.
func TestHalf(t *testing.T) {
	for _, k := range []int{0, -1, -64, math.MinInt} {
		coinless(t, "Half", half(k), true)
	}
	for k := 1; k < 12; k++ {
		answers(t, "Half", half(k), strings.Repeat("1", k)+"0", true, k)
		for yes := range k {
			answers(t, "Half", half(k), strings.Repeat("1", yes)+"0111", false, yes+1)
		}
	}
}

// P10.1: of a k above all coins there is no yes; it ends with the tape.
func TestHalfOfMany(t *testing.T) {
	for _, k := range []int{5, 64, 1 << 21, math.MaxInt} {
		tooFew(t, "Half", half(k), "")
		tooFew(t, "Half", half(k), "1111")
		answers(t, "Half", half(k), "11101111", false, 4)
	}
	all := make([]bool, api.MaxTape)
	for i := range all {
		all[i] = true
	}
	x := tape.New(all...)
	if yes, e := flip.Half(x, api.MaxTape); !yes || e != api.OK || x.Left() != 0 || x.Dead() {
		t.Errorf("of as many as may be: %v, %d, %d left", yes, e, x.Left())
	}
	x.Back(0)
	if yes, e := flip.Half(x, api.MaxTape+1); yes || e != api.ErrTape || !x.Dead() || x.Read() != api.MaxTape {
		t.Errorf("of one more: %v, %d, %d read", yes, e, x.Read())
	}
}

// P10.1: no chance is by 0, or above 1, of Power whatever k is.
func TestRange(t *testing.T) {
	long := nat.Of(0, 0, 1)
	for _, x := range []struct{ p, q nat.Nat }{
		{nat.Of(), nat.Of()},
		{nat.Of(1), nat.Of()},
		{long, nat.Of()},
		{nat.Of(2), nat.Of(1)},
		{nat.Of(8), nat.Of(7)},
		{nat.Of(math.MaxUint64), nat.Of(1)},
		{long, nat.Of(math.MaxUint64, math.MaxUint64)},
		{nat.Of(1, 0, 1), long},
	} {
		what := x.p.Text() + " by " + x.q.Text()
		refuses(t, "Ratio "+what, ratioOf(x.p, x.q))
		for _, k := range []int{math.MinInt, -1, 0, 1, 2, 70, math.MaxInt} {
			refuses(t, "Power "+what, powerOf(x.p, x.q, k))
		}
	}
}

// P10.1: of 0, and of q, no coin is needed.
func TestRatioSure(t *testing.T) {
	for _, q := range []nat.Nat{nat.Of(1), nat.Of(2), nat.Of(7), nat.Of(1 << 63), nat.Of(5, 0, 9)} {
		coinless(t, "0 by "+q.Text(), ratioOf(nat.Of(), q), false)
		coinless(t, q.Text()+" by itself", ratioOf(q, nat.Of(q.Words()...)), true)
	}
}

// P10.1: ratios of which the digits are known. Where nothing is left at last,
// it is no, without one more coin.
func TestRatio(t *testing.T) {
	for _, x := range []struct {
		p, q  uint64
		coins string
		yes   bool
	}{
		{1, 2, "0", true},
		{1, 2, "1", false},
		{3, 6, "0", true},
		{3, 6, "1", false},
		{1, 4, "1", false},
		{1, 4, "00", true},
		{1, 4, "01", false},
		{3, 4, "0", true},
		{3, 4, "10", true},
		{3, 4, "11", false},
		{5, 8, "0", true},
		{5, 8, "11", false},
		{5, 8, "100", true},
		{5, 8, "101", false},
		{1, 3, "0100", true},
		{1, 3, "01011", false},
		{2, 6, "0100", true},
		{2, 6, "01011", false},
		{2, 3, "0", true},
		{2, 3, "11", false},
		{2, 3, "100", true},
		{2, 3, "1011", false},
		{2, 3, "10100", true},
		{1, 5, "1", false},
		{1, 5, "01", false},
		{1, 5, "000", true},
		{1, 5, "0010", true},
		{1, 5, "00111", false},
		{1, 1 << 10, "0000000000", true},
		{1, 1 << 10, "0000000001", false},
		{1<<63 - 1, 1 << 63, strings.Repeat("1", 62) + "0", true},
		{1<<63 - 1, 1 << 63, strings.Repeat("1", 63), false},
	} {
		what := nat.Of(x.p).Text() + " by " + nat.Of(x.q).Text()
		answers(t, what, ratio(x.p, x.q), x.coins, x.yes, len(x.coins))
		answers(t, what, ratio(x.p, x.q), x.coins+"01", x.yes, len(x.coins))
	}
	tooFew(t, "1 by 3", ratio(1, 3), "")
	tooFew(t, "1 by 3", ratio(1, 3), "010101010101")
	tooFew(t, "2 by 3", ratio(2, 3), "10101010101")
}

// value tells a number as the library's.
func value(a nat.Nat) *big.Int {
	n := new(big.Int)
	for _, x := range slices.Backward(a.Words()) {
		n.Lsh(n, 64).Or(n, new(big.Int).SetUint64(x))
	}
	return n
}

// digits tells the first n binary digits of p by q, which is below 1.
func digits(p, q nat.Nat, n int) string {
	top := new(big.Int).Lsh(value(p), uint(n))
	text := top.Quo(top, value(q)).Text(2)
	if top.Sign() == 0 {
		text = ""
	}
	return strings.Repeat("0", n-len(text)) + text
}

// turned tells a text with its last coin turned.
func turned(text string) string {
	last := len(text) - 1
	return text[:last] + string('0'+'1'-text[last])
}

// drawn is a number of so many words at most.
func drawn(chance *rand.Rand, most int) nat.Nat {
	words := make([]uint64, chance.Intn(most+1))
	for i := range words {
		switch chance.Intn(5) {
		case 0:
		case 1:
			words[i] = math.MaxUint64
		default:
			words[i] = chance.Uint64() >> chance.Intn(64)
		}
	}
	return nat.Of(words...)
}

// P10.1: numbers of many words: coins that go with the digits, and then part,
// are answered by the digit.
func TestRatioLong(t *testing.T) {
	chance := rand.New(rand.NewSource(1))
	for range 400 {
		p, q := drawn(chance, 6), drawn(chance, 6)
		if nat.Cmp(p, q) > 0 {
			p, q = q, p
		}
		if p.Zero() || nat.Cmp(p, q) == 0 {
			continue
		}
		p3, q3 := nat.Mul(p, nat.Of(3)), nat.Mul(q, nat.Of(3)) // the same chance
		for _, n := range []int{1, 1 + chance.Intn(10), 64, 65, 1 + chance.Intn(400)} {
			if with := digits(p, q, n); ended(p, q) >= n {
				yes := with[n-1] == '1'
				answers(t, p.Text()+" by "+q.Text(), ratioOf(p, q), turned(with), yes, n)
				answers(t, p3.Text()+" by "+q3.Text(), ratioOf(p3, q3), turned(with), yes, n)
			}
		}
	}
}

// ended tells how many digits p by q has till nothing is left, or, of one that
// has no end, more than any that are asked for.
func ended(p, q nat.Nat) int {
	left, _, _ := nat.DivMod(q, nat.Gcd(p, q))
	n := left.Bits() - 1
	if power, _ := nat.Shl(nat.Of(1), n); nat.Cmp(power, left) != 0 {
		return math.MaxInt
	}
	return n
}

// P10.1: of long fractions of a power of two it is no at their last digit.
func TestRatioLongEnd(t *testing.T) {
	chance := rand.New(rand.NewSource(2))
	for _, n := range []int{63, 64, 65, 128, 500} {
		q, _ := nat.Shl(nat.Of(1), n)
		p := nat.Of(1)
		for nat.Cmp(nat.Add(p, p), q) < 0 {
			if p = nat.Add(p, p); chance.Intn(2) == 0 {
				p = nat.Add(p, nat.Of(1))
			}
		}
		if !p.Bit(0) {
			p = nat.Add(p, nat.Of(1))
		}
		with := digits(p, q, n)
		answers(t, "its digits", ratioOf(p, q), with, false, n)
		answers(t, "its last one turned", ratioOf(p, q), turned(with), true, n)
		three := nat.Of(3)
		answers(t, "three times", ratioOf(nat.Mul(p, three), nat.Mul(q, three)), with, false, n)
	}
}

// P10.1: Power is Ratio till one is no, or k of them were yes.
func TestPower(t *testing.T) {
	for _, x := range []struct {
		p, q  uint64
		k     int
		coins string
		yes   bool
	}{
		{1, 3, 1, "00", true},
		{1, 3, 1, "1", false},
		{1, 3, 2, "0000", true},
		{1, 3, 2, "1", false},
		{1, 3, 2, "001", false},
		{1, 3, 2, "00011", false},
		{1, 3, 2, "010000", true},
		{2, 3, 3, "01000", true},
		{2, 3, 3, "0011", false},
		{1, 2, 5, "00000", true},
		{1, 2, 5, "00001", false},
		{3, 4, 2, "1010", true},
		{3, 4, 2, "1011", false},
		{3, 4, 2, "11", false},
		{0, 5, 1, "", false},
		{0, 5, 9, "", false},
		{0, 5, math.MaxInt, "", false},
		{1, 2, math.MaxInt, "00000001", false},
	} {
		what := "Power of " + nat.Of(x.p).Text() + " by " + nat.Of(x.q).Text()
		answers(t, what, power(x.p, x.q, x.k), x.coins, x.yes, len(x.coins))
		answers(t, what, power(x.p, x.q, x.k), x.coins+"10", x.yes, len(x.coins))
	}
}

// P10.1: of no Ratio it is yes, of 0, too; of q it is yes however great k is,
// and the call ends.
func TestPowerSure(t *testing.T) {
	for _, k := range []int{0, -1, -100, math.MinInt} {
		coinless(t, "k below 1, of 0", power(0, 3, k), true)
		coinless(t, "k below 1, of 1 by 3", power(1, 3, k), true)
		coinless(t, "k below 1, of 3 by 3", power(3, 3, k), true)
		coinless(t, "k below 1, of long ones", powerOf(nat.Of(0, 1), nat.Of(5, 7), k), true)
	}
	for _, k := range []int{1, 2, 1000, math.MaxInt} {
		coinless(t, "of 3 by 3", power(3, 3, k), true)
		coinless(t, "of long ones", powerOf(nat.Of(4, 5, 6), nat.Of(4, 5, 6), k), true)
		coinless(t, "of 0", power(0, 3, k), false)
	}
	for _, k := range []int{1001, 1 << 30, math.MaxInt} {
		tooFew(t, "of 1 by 2", power(1, 2, k), strings.Repeat("0", 1000))
		tooFew(t, "of 2 by 3", power(2, 3, k), strings.Repeat("0", 999)+"1")
	}
}

// P10.1: Chance is Ratio of what is above the line, and below it.
func TestChance(t *testing.T) {
	coinless(t, "the zero Rat", chanceOf(rat.Rat{}), false)
	coinless(t, "0", chanceOf(rat.Of(0)), false)
	coinless(t, "0 by 7", chanceOf(frac(0, 7)), false)
	coinless(t, "1", chanceOf(rat.Of(1)), true)
	coinless(t, "-5 by -5", chanceOf(frac(-5, -5)), true)
	answers(t, "1 by 3", chanceOf(frac(1, 3)), "1", false, 1)
	answers(t, "1 by 3", chanceOf(frac(-2, -6)), "00", true, 2)
	answers(t, "1 by 3", chanceOf(frac(2, 6)), "011", false, 3)
	answers(t, "3 by 4", chanceOf(frac(6, 8)), "11", false, 2)
	tooFew(t, "3 by 4", chanceOf(frac(6, 8)), "1")
	tooFew(t, "3 by 4", chanceOf(frac(6, 8)), "")
	for _, x := range []rat.Rat{
		frac(-1, 3), frac(1, -3), frac(4, 3), frac(1001, 1000), rat.Of(-1), rat.Of(2),
		rat.Of(math.MinInt), rat.Of(math.MaxInt), frac(-1, math.MaxInt), frac(math.MaxInt, math.MaxInt-1),
		rat.Nat(nat.Of(0, 0, 1)),
	} {
		refuses(t, "Chance "+x.Text(), chanceOf(x))
	}
}

// P10.1: a Chance of long numbers takes and answers what Ratio does.
func TestChanceLong(t *testing.T) {
	chance := rand.New(rand.NewSource(3))
	for range 300 {
		p, q := drawn(chance, 3), nat.Add(drawn(chance, 3), nat.Of(1))
		x, _ := rat.Frac(whole.Make(chance.Intn(6) == 0, p), whole.Make(false, q))
		coins := make([]bool, chance.Intn(6))
		for i := range coins {
			coins[i] = chance.Intn(2) == 1
		}
		a, b := tape.New(coins...), tape.New(coins...)
		yes, e := flip.Chance(a, x)
		want, e2 := false, api.ErrRange
		if !x.Num().Neg() {
			want, e2 = flip.Ratio(b, p, q)
		}
		if yes != want || e != e2 || a.Read() != b.Read() || a.Dead() != b.Dead() {
			t.Fatalf("%s: %v, %d, not %v, %d", x.Text(), yes, e, want, e2)
		}
	}
}

// P10.1, P2: each takes coins from the tape's next one on, and leaves those
// behind to the next call; back there it answers the same.
func TestNext(t *testing.T) {
	x := tape.New(coinsOf("11" + "10" + "1" + "00" + "1110" + "0100" + "011" + "11" + "00")...)
	for range 2 {
		for i, c := range []struct {
			ask  call
			yes  bool
			read int
		}{
			{half(2), true, 2},
			{half(2), false, 4},
			{ratio(1, 5), false, 5},
			{ratio(1, 3), true, 7},
			{half(4), false, 11},
			{power(1, 3, 2), false, 18},
			{ratio(0, 3), false, 18},
			{chanceOf(frac(3, 4)), false, 20},
			{half(0), true, 20},
			{chanceOf(frac(1, 4)), true, 22},
		} {
			yes, e := c.ask(x)
			if yes != c.yes || e != api.OK || x.Read() != c.read || x.Dead() {
				t.Fatalf("call %d: %v, %d, %d read, not %v, %d", i, yes, e, x.Read(), c.yes, c.read)
			}
		}
		for _, ask := range []call{half(1), ratio(1, 3), power(1, 3, 2), chanceOf(frac(1, 3))} {
			if yes, e := ask(x); yes || e != api.ErrTape || x.Read() != 22 || !x.Dead() {
				t.Fatalf("at the end: %v, %d, %d read", yes, e, x.Read())
			}
		}
		x.Back(0)
	}
}

// Rule 5: no call changes the numbers that it is handed.
func TestUnchanged(t *testing.T) {
	p, q := nat.Of(math.MaxUint64, 7), nat.Of(math.MaxUint64, math.MaxUint64)
	x, _ := rat.Frac(whole.Make(false, p), whole.Make(false, q))
	text := x.Text()
	for _, coins := range []string{"", "0", "00000111110000011", "11111"} {
		for _, ask := range []call{ratioOf(p, q), powerOf(p, q, 3), chanceOf(x)} {
			ask(tape.New(coinsOf(coins)...))
			if !slices.Equal(p.Words(), []uint64{math.MaxUint64, 7}) || !slices.Equal(q.Words(), []uint64{math.MaxUint64, math.MaxUint64}) || x.Text() != text {
				t.Fatalf("of %s: %x, %x, %s", coins, p.Words(), q.Words(), x.Text())
			}
		}
	}
}

// P1: each call ends without a panic, whatever it is given; beside an error it
// says no, and the tape is dead just of ErrTape.
func TestEveryArgument(t *testing.T) {
	chance := rand.New(rand.NewSource(4))
	ints := []int{0, 1, -1, 2, math.MaxInt, math.MinInt, math.MaxInt32, math.MinInt32}
	for range 20000 {
		b := make([]byte, chance.Intn(9))
		chance.Read(b)
		k := ints[chance.Intn(len(ints))]
		if chance.Intn(2) == 0 {
			k = int(chance.Uint64()) >> chance.Intn(64)
		}
		p, q := drawn(chance, 3), drawn(chance, 3)
		x, _ := rat.Frac(whole.Make(chance.Intn(2) == 0, p), whole.Make(chance.Intn(2) == 0, q))
		for i, ask := range []call{half(k), ratioOf(p, q), powerOf(p, q, k), chanceOf(x)} {
			y := tape.FromBytes(b, chance.Intn(80))
			count := y.Left()
			yes, e := ask(y)
			if e != api.OK && (yes || e != api.ErrTape && (e != api.ErrRange || y.Read() != 0)) {
				t.Fatalf("call %d: %v, %d", i, yes, e)
			}
			if y.Dead() != (e == api.ErrTape) || y.Read()+y.Left() != count || y.Dead() && y.Left() != 0 {
				t.Fatalf("call %d: %d, %d read, %d left of %d", i, e, y.Read(), y.Left(), count)
			}
		}
	}
}
