package morris_test

import (
	"math"
	"math/big"
	"math/bits"
	"math/rand"
	"slices"
	"strings"
	"testing"

	"tallymark/api"
	"tallymark/flip"
	"tallymark/morris"
	"tallymark/nat"
	"tallymark/rat"
	"tallymark/tape"
)

const last = 1023 // the greatest place

var (
	bad    = []int{0, -1, -2, -4096, math.MinInt, 4097, 4098, 1 << 20, math.MaxInt}
	good   = []int{1, 2, 3, 4, 7, 10, 100, 127, 128, 254, 255, 256, 1000, 2046, 2047, 2048, 4094, 4095, 4096}
	beyond = []int{-1, -2, -1023, math.MinInt, 1024, 1025, 1 << 20, math.MaxInt}
	within = []int{0, 1, 2, 7, 500, 1022, 1023}
)

// coinsOf tells the coins of a text, 1 for yes.
func coinsOf(text string) []bool {
	coins := make([]bool, len(text))
	for i := range text {
		coins[i] = text[i] == '1'
	}
	return coins
}

// call is one of the layer's calls that take coins, or what it should be.
type call func(t *tape.Tape) (bool, api.Errno)

func step(a, k int) call {
	return func(t *tape.Tape) (bool, api.Errno) { return morris.Step(t, a, k) }
}

func again(a, k, from int) call {
	return func(t *tape.Tape) (bool, api.Errno) { return morris.Again(t, a, k, from) }
}

// power is flip's, of a by a + 1.
func power(a, k int) call {
	return func(t *tape.Tape) (bool, api.Errno) {
		return flip.Power(t, nat.Of(uint64(a)), nat.Of(uint64(a)+1), k)
	}
}

// asked asks for what a call answers of these coins, and how many of them it
// takes.
func asked(t *testing.T, what string, ask call, text string, want bool, fault api.Errno, read int) {
	t.Helper()
	x := tape.New(coinsOf(text)...)
	got, e := ask(x)
	if got != want || e != fault || x.Read() != read || x.Dead() != (fault == api.ErrTape) {
		t.Fatalf("%s of %s: %v, %d, %d read, dead %v; not %v, %d, %d read", what, text, got, e, x.Read(), x.Dead(), want, fault, read)
	}
}

// answers asks for what a call answers of just these coins. P2: with more of
// them behind it answers the same, and leaves those; of fewer it has too few.
func answers(t *testing.T, what string, ask call, text string, want bool) {
	t.Helper()
	for _, more := range []string{"", "0", "1", "0110", "1111111111"} {
		asked(t, what, ask, text+more, want, api.OK, len(text))
	}
	for n := 0; n < len(text); n += 1 + len(text)/20 {
		asked(t, what, ask, text[:n], false, api.ErrTape, n)
	}
	if n := len(text) - 1; n >= 0 {
		asked(t, what, ask, text[:n], false, api.ErrTape, n)
	}
}

// coinless asks for an answer, or an error, without a coin: of a tape that is
// dead, too, which stays so.
func coinless(t *testing.T, what string, ask call, want bool, fault api.Errno) {
	t.Helper()
	for _, text := range []string{"", "0", "1", "0101", "1111"} {
		asked(t, what, ask, text, want, fault, 0)
		x := tape.New(coinsOf(text)...)
		for range len(text) + 1 {
			x.Flip()
		}
		if got, e := ask(x); got != want || e != fault || x.Read() != len(text) || !x.Dead() {
			t.Fatalf("%s of %s, dead: %v, %d, dead %v; not %v, %d", what, text, got, e, x.Dead(), want, fault)
		}
	}
}

// faulty asks Chance and Value for an error, beside which there is nothing.
func faulty(t *testing.T, a, k int, want api.Errno) {
	t.Helper()
	chance, e := morris.Chance(a, k)
	value, f := morris.Value(a, k)
	if e != want || f != want || rat.Cmp(chance, rat.Rat{}) != 0 || rat.Cmp(value, rat.Rat{}) != 0 {
		t.Errorf("a %d, k %d: %s, %d; %s, %d; not %d", a, k, chance.Text(), e, value.Text(), f, want)
	}
}

// is holds a fraction against the library's.
func is(t *testing.T, what string, a, k int, got rat.Rat, e api.Errno, want *big.Rat) {
	t.Helper()
	if e != api.OK || got.Text() != want.RatString() {
		t.Fatalf("%s of a %d at %d: %s, %d, not %s", what, a, k, got.Text(), e, want.RatString())
	}
}

// P12.1: the example of the chapter.
func TestExample(t *testing.T) {
	for k, want := range []struct{ chance, value string }{{"1", "0"}, {"1/2", "1"}, {"1/4", "3"}, {"1/8", "7"}} {
		chance, e := morris.Chance(1, k)
		value, f := morris.Value(1, k)
		if chance.Text() != want.chance || value.Text() != want.value || e != api.OK || f != api.OK {
			t.Errorf("at %d: %s, %d; %s, %d", k, chance.Text(), e, value.Text(), f)
		}
	}
}

// P12.1: a is 1 to MaxA.
func TestGood(t *testing.T) {
	for a := -10; a <= api.MaxA+10; a++ {
		if got := morris.Good(a); got != (a >= 1 && a <= 4096) {
			t.Errorf("Good(%d) is %v", a, got)
		}
	}
	for _, a := range bad {
		if morris.Good(a) {
			t.Errorf("Good(%d)", a)
		}
	}
}

// P12.1, P12.2: ErrParam goes ahead of ErrRange, of k and of from; neither
// takes a coin.
func TestErrors(t *testing.T) {
	all := slices.Concat(beyond, within)
	for _, a := range bad {
		for _, k := range all {
			faulty(t, a, k, api.ErrParam)
			coinless(t, "Step", step(a, k), false, api.ErrParam)
			for _, from := range all {
				coinless(t, "Again", again(a, k, from), false, api.ErrParam)
			}
		}
	}
	for _, a := range good {
		for _, k := range beyond {
			faulty(t, a, k, api.ErrRange)
			coinless(t, "Step", step(a, k), false, api.ErrRange)
			for _, from := range all {
				coinless(t, "Again", again(a, k, from), false, api.ErrRange)
				coinless(t, "Again", again(a, from, k), false, api.ErrRange)
			}
		}
	}
}

// P12.1: ErrSize is where layer 7's Pow refuses it, and there alone: where the
// bits of a + 1 times k are more than MaxNat.
func TestSize(t *testing.T) {
	for _, a := range good {
		share, _ := rat.Make(a, a+1)
		growth, _ := rat.Make(a+1, a)
		most := min(last, api.MaxNat/bits.Len(uint(a+1)))
		for _, k := range []int{0, 1, most - 1, most, most + 1, most + 2, last - 1, last} {
			_, e := rat.Pow(share, k)
			_, f := rat.Pow(growth, k)
			if e != f || (e != api.OK) != (bits.Len(uint(a+1))*k > api.MaxNat) {
				t.Fatalf("Pow of a %d to the %d: %d, %d", a, k, e, f)
			}
			switch {
			case k > last:
				faulty(t, a, k, api.ErrRange)
			case k > most:
				faulty(t, a, k, api.ErrSize)
			default:
				_, e := morris.Chance(a, k)
				_, f := morris.Value(a, k)
				if e != api.OK || f != api.OK {
					t.Errorf("a %d, k %d: %d, %d", a, k, e, f)
				}
			}
		}
	}
}

// P12.1: of each a: where it is refused first.
func TestSizeFirst(t *testing.T) {
	for _, x := range []struct{ a, k int }{{255, 911}, {510, 911}, {511, 820}, {1023, 745}, {2047, 683}, {4095, 631}, {4096, 631}} {
		faulty(t, x.a, x.k, api.ErrSize)
		faulty(t, x.a, last, api.ErrSize)
		if _, e := morris.Chance(x.a, x.k-1); e != api.OK {
			t.Errorf("Chance of a %d at %d: %d", x.a, x.k-1, e)
		}
		if _, e := morris.Value(x.a, x.k-1); e != api.OK {
			t.Errorf("Value of a %d at %d: %d", x.a, x.k-1, e)
		}
	}
}

// P12.1: the chance is a by a + 1, to the k, and the value is the sum of 1 by
// the chances of all below k: by the library's fractions.
func TestSum(t *testing.T) {
	for _, a := range good {
		share, growth := big.NewRat(int64(a), int64(a)+1), big.NewRat(int64(a)+1, int64(a))
		chance, up, sum := big.NewRat(1, 1), big.NewRat(1, 1), new(big.Rat)
		for k := range 60 {
			got, e := morris.Chance(a, k)
			is(t, "Chance", a, k, got, e, chance)
			got, e = morris.Value(a, k)
			is(t, "Value", a, k, got, e, sum)
			sum.Add(sum, up)
			chance.Mul(chance, share)
			up.Mul(up, growth)
		}
	}
}

// P12.1: the sum goes on to the greatest place that isn't refused: from each to
// the next one the value goes up by 1 by the chance.
func TestSumToTheEnd(t *testing.T) {
	one := rat.Of(1)
	for _, a := range []int{1, 2, 100, 127, 255, 4096} {
		sum, end := rat.Rat{}, min(last, api.MaxNat/bits.Len(uint(a+1)))
		for k := range end + 1 {
			value, e := morris.Value(a, k)
			if e != api.OK || rat.Cmp(value, sum) != 0 {
				t.Fatalf("Value of a %d at %d: %d", a, k, e)
			}
			chance, e := morris.Chance(a, k)
			up, f := rat.Div(one, chance)
			if e != api.OK || f != api.OK {
				t.Fatalf("Chance of a %d at %d: %d", a, k, e)
			}
			sum = rat.Add(sum, up)
		}
	}
}

// P12.1: at 0 the chance is 1 and the value 0, at 1 it is 1, of each a.
func TestFirst(t *testing.T) {
	for a := 1; a <= api.MaxA; a++ {
		chance, e := morris.Chance(a, 0)
		is(t, "Chance", a, 0, chance, e, big.NewRat(1, 1))
		value, e := morris.Value(a, 0)
		is(t, "Value", a, 0, value, e, new(big.Rat))
		chance, e = morris.Chance(a, 1)
		is(t, "Chance", a, 1, chance, e, big.NewRat(int64(a), int64(a)+1))
		value, e = morris.Value(a, 1)
		is(t, "Value", a, 1, value, e, big.NewRat(1, 1))
	}
}

// P12.2: a step at 0 is always done, and so is one again that is not behind
// from: no coin is needed.
func TestSure(t *testing.T) {
	for _, a := range good {
		coinless(t, "Step at 0", step(a, 0), true, api.OK)
		for _, k := range within {
			for _, from := range within {
				if from >= k {
					coinless(t, "Again", again(a, k, from), true, api.OK)
				}
			}
		}
	}
}

// P12.2: steps of which the coins are known: of 1 by 2 a no is yes, of 3 by 4
// the digits are 1 1, of 2 by 3 they are 1 0 1 0 ..
func TestStep(t *testing.T) {
	for _, x := range []struct {
		a, k int
		text string
		want bool
	}{
		{1, 1, "0", true},
		{1, 1, "1", false},
		{1, 3, "000", true},
		{1, 3, "001", false},
		{1, 3, "1", false},
		{2, 1, "0", true},
		{2, 1, "11", false},
		{2, 1, "100", true},
		{2, 2, "00", true},
		{2, 2, "1000", true},
		{2, 2, "011", false},
		{2, 2, "1001011", false},
		{3, 1, "0", true},
		{3, 1, "10", true},
		{3, 1, "11", false},
		{3, 2, "1010", true},
		{3, 2, "011", false},
		{4096, 1, "111111111110", true},
		{4096, 1, "1111111111111", false},
		{4096, last, strings.Repeat("0", last), true},
		{4095, last, strings.Repeat("0", last-1) + "111111111111", false},
		{1, last, strings.Repeat("0", last), true},
		{1, last, strings.Repeat("0", last-1) + "1", false},
	} {
		answers(t, "Step", step(x.a, x.k), x.text, x.want)
		for _, from := range []int{0, 1, 5, last - x.k} {
			if x.k+from <= last {
				answers(t, "Again", again(x.a, x.k+from, from), x.text, x.want)
			}
		}
	}
}

// P12.2: Step and Again take and answer what flip's Power does, of k, and of k
// less from: no place is refused for its size.
func TestPower(t *testing.T) {
	chance := rand.New(rand.NewSource(1))
	for range 5000 {
		a, k, from := good[chance.Intn(len(good))], chance.Intn(last+1), chance.Intn(last+1)
		if chance.Intn(2) == 0 {
			a, from = 1+chance.Intn(api.MaxA), max(0, k-chance.Intn(8))
		}
		b := make([]byte, chance.Intn(40))
		if chance.Intn(2) == 0 {
			chance.Read(b)
		}
		asSame(t, "Step", step(a, k), power(a, k), b)
		asSame(t, "Again", again(a, k, from), power(a, k-from), b)
	}
}

// asSame asks two calls for the same of these coins.
func asSame(t *testing.T, what string, ask, should call, b []byte) {
	t.Helper()
	x, y := tape.FromBytes(b, 8*len(b)), tape.FromBytes(b, 8*len(b))
	got, e := ask(x)
	want, f := should(y)
	if got != want || e != f || x.Read() != y.Read() || x.Dead() != y.Dead() {
		t.Fatalf("%s of %x: %v, %d, %d read; not %v, %d, %d", what, b, got, e, x.Read(), want, f, y.Read())
	}
}

// P12.2: each takes coins from the tape's next one on; at its end it is dead,
// and what is sure is told nevertheless.
func TestNext(t *testing.T) {
	x := tape.New(coinsOf("00" + "01" + "100" + "11" + "10")...)
	for range 2 {
		for i, c := range []struct {
			ask  call
			want bool
			read int
		}{
			{step(1, 2), true, 2},
			{step(9, 0), true, 2},
			{again(1, 9, 7), false, 4},
			{step(2, 1), true, 7},
			{again(3, 7, 7), true, 7},
			{step(2, 4), false, 9},
			{again(3, 5, 4), true, 11},
		} {
			got, e := c.ask(x)
			if got != c.want || e != api.OK || x.Read() != c.read || x.Dead() {
				t.Fatalf("call %d: %v, %d, %d read, not %v, %d", i, got, e, x.Read(), c.want, c.read)
			}
		}
		for _, ask := range []call{step(1, 1), again(4096, 1023, 1022), step(7, 1023)} {
			if got, e := ask(x); got || e != api.ErrTape || x.Read() != 11 || !x.Dead() {
				t.Fatalf("at the end: %v, %d, %d read", got, e, x.Read())
			}
		}
		if got, e := morris.Step(x, 5, 0); !got || e != api.OK || !x.Dead() {
			t.Fatalf("at 0 of a dead tape: %v, %d", got, e)
		}
		x.Back(0)
	}
}

// P1: each call ends without a panic, whatever it is given, with the errors
// that are told.
func TestEveryArgument(t *testing.T) {
	chance := rand.New(rand.NewSource(2))
	ints := slices.Concat([]int{0, 1, math.MaxInt32, math.MinInt32}, bad, beyond)
	some := func(most int) int {
		if chance.Intn(4) == 0 {
			return ints[chance.Intn(len(ints))]
		}
		return chance.Intn(most+3) - 1
	}
	for range 3000 {
		a, k, from := some(api.MaxA), some(last), some(last)
		want := api.OK
		switch {
		case a < 1 || a > 4096:
			want = api.ErrParam
		case k < 0 || k > last:
			want = api.ErrRange
		}
		if want != api.OK {
			faulty(t, a, k, want)
			coinless(t, "Step", step(a, k), false, want)
		} else if want = api.ErrRange; from >= 0 && from <= last {
			asSame(t, "Step", step(a, k), power(a, k), []byte{0x35})
			asSame(t, "Again", again(a, k, from), power(a, k-from), []byte{0x35})
			continue
		}
		coinless(t, "Again", again(a, k, from), false, want)
	}
}
