package draw_test

import (
	"math"
	"math/big"
	"math/bits"
	"math/rand"
	"slices"
	"strings"
	"testing"

	"tallymark/api"
	"tallymark/draw"
	"tallymark/nat"
	"tallymark/rat"
	"tallymark/tape"
	"tallymark/whole"
)

// call is one of the layer's calls, its other arguments given.
type call func(t *tape.Tape) (uint64, api.Errno)

func below(n uint64) call {
	return func(t *tape.Tape) (uint64, api.Errno) { return draw.Below(t, n) }
}

func binomial(y int) call {
	return func(t *tape.Tape) (uint64, api.Errno) {
		n, e := draw.Binomial(t, y)
		return uint64(n), e
	}
}

func round(x rat.Rat) call {
	return func(t *tape.Tape) (uint64, api.Errno) {
		n, e := draw.Round(t, x)
		return uint64(n), e
	}
}

// frac makes a fraction of two ints, of which the second isn't 0.
func frac(p, q int) rat.Rat {
	x, e := rat.Make(p, q)
	if e != api.OK {
		panic("a fraction by 0")
	}
	return x
}

// coinsOf tells the coins of a text, 1 for yes.
func coinsOf(text string) []bool {
	coins := make([]bool, len(text))
	for i := range text {
		coins[i] = text[i] == '1'
	}
	return coins
}

// answers asks for what a call answers of just these coins. P2: with more of
// them behind it answers the same, and leaves those; of fewer it has too few.
func answers(t *testing.T, what string, ask call, text string, want uint64) {
	t.Helper()
	for _, more := range []string{"", "0", "1", "0110", "1111111111"} {
		x := tape.New(coinsOf(text + more)...)
		got, e := ask(x)
		if got != want || e != api.OK || x.Read() != len(text) || x.Left() != len(more) || x.Dead() {
			t.Fatalf("%s of %s, and %q: %d, %d, %d read, %d left, dead %v; not %d", what, text, more, got, e, x.Read(), x.Left(), x.Dead(), want)
		}
	}
	for n := range len(text) {
		tooFew(t, what, ask, text[:n])
	}
}

// tooFew asks for ErrTape: all coins are gone, and the tape is dead, and stays
// so.
func tooFew(t *testing.T, what string, ask call, text string) {
	t.Helper()
	x := tape.New(coinsOf(text)...)
	for range 2 {
		got, e := ask(x)
		if got != 0 || e != api.ErrTape || x.Read() != len(text) || x.Left() != 0 || !x.Dead() {
			t.Fatalf("%s of %s: %d, %d, %d read, dead %v; not ErrTape", what, text, got, e, x.Read(), x.Dead())
		}
	}
}

// kill takes all coins of a tape, and one more.
func kill(x *tape.Tape) {
	for range x.Left() + 1 {
		x.Flip()
	}
}

// coinless asks for an answer, or an error, without a coin: of a tape that is
// dead, too, which stays so.
func coinless(t *testing.T, what string, ask call, want uint64, fault api.Errno) {
	t.Helper()
	for _, text := range []string{"", "0", "1", "0101", "1111"} {
		x := tape.New(coinsOf(text)...)
		if got, e := ask(x); got != want || e != fault || x.Read() != 0 || x.Left() != len(text) || x.Dead() {
			t.Fatalf("%s of %s: %d, %d, %d read, dead %v; not %d, %d", what, text, got, e, x.Read(), x.Dead(), want, fault)
		}
		kill(x)
		if got, e := ask(x); got != want || e != fault || x.Read() != len(text) || !x.Dead() {
			t.Fatalf("%s of %s, dead: %d, %d, dead %v; not %d, %d", what, text, got, e, x.Dead(), want, fault)
		}
	}
}

// digits tells a number as so many bits, the highest first.
func digits(x uint64, wide int) string {
	b := make([]byte, wide)
	for i := range b {
		b[i] = '0' + byte(x>>(wide-1-i)&1)
	}
	return string(b)
}

// P11.1: the examples of the chapter.
func TestExample(t *testing.T) {
	answers(t, "Below 3", below(3), "1101", 1)
	answers(t, "Round 7/2", round(frac(7, 2)), "0", 4)
	answers(t, "Round 7/2", round(frac(7, 2)), "1", 3)
}

// P11.1: below 0 there is nothing, and below 1 there is 0 alone.
func TestBelowSure(t *testing.T) {
	coinless(t, "Below 0", below(0), 0, api.ErrRange)
	coinless(t, "Below 1", below(1), 0, api.OK)
}

// edges are numbers around the powers of two, and some between.
func edges() []uint64 {
	l := []uint64{3, 10, 100, 1000, 1<<63 + 12345, 3 << 62, math.MaxUint64 - 1, math.MaxUint64}
	for i := 1; i < 64; i++ {
		l = append(l, 1<<i-1, 1<<i, 1<<i+1)
	}
	return slices.DeleteFunc(l, func(n uint64) bool { return n < 2 })
}

// P11.1: the coins are a number's bits, of as many as n - 1 has, the highest
// first; what is n or more is drawn again, once or several times.
func TestBelow(t *testing.T) {
	for _, n := range edges() {
		wide := bits.Len64(n - 1)
		top := uint64(math.MaxUint64) >> (64 - wide)
		for _, x := range []uint64{0, 1, n / 3, n / 2, n - 2, n - 1} {
			answers(t, "Below", below(n), digits(x, wide), x)
			if top < n { // a power of two
				continue
			}
			for _, great := range []uint64{n, n + (top-n)/2, top} {
				answers(t, "Below, again", below(n), digits(great, wide)+digits(x, wide), x)
			}
			answers(t, "Below, again and again", below(n), digits(top, wide)+digits(n, wide)+digits(top, wide)+digits(x, wide), x)
		}
	}
}

// P11.1: of a power of two any coins are an answer, one more than that may be
// drawn again, and one less is so of all yes alone.
func TestBelowPowers(t *testing.T) {
	for i := 1; i < 64; i++ {
		yes, no := strings.Repeat("1", i), strings.Repeat("0", i)
		answers(t, "a power", below(1<<i), yes, 1<<i-1)
		answers(t, "a power", below(1<<i), no, 0)
		answers(t, "one more", below(1<<i+1), "1"+no, 1<<i)
		answers(t, "one more", below(1<<i+1), "1"+no[1:]+"1"+"0"+yes, 1<<i-1)
		if i > 1 {
			answers(t, "one less", below(1<<i-1), yes[1:]+"0", 1<<i-2)
			answers(t, "one less", below(1<<i-1), yes+yes+no, 0)
		}
	}
	yes := strings.Repeat("1", 64)
	answers(t, "all bits", below(math.MaxUint64), yes+yes+yes+yes[1:]+"0", math.MaxUint64-1)
	answers(t, "all bits", below(math.MaxUint64), yes+"0"+yes[1:], math.MaxUint64>>1)
}

// P11.1: a tape that is too great each time is dead at last.
func TestBelowNever(t *testing.T) {
	all := make([]byte, api.MaxTape/8)
	for i := range all {
		all[i] = 0xff
	}
	for _, n := range []uint64{3, 5, 9, 1<<63 + 1, math.MaxUint64} {
		x := tape.FromBytes(all, api.MaxTape)
		if got, e := draw.Below(x, n); got != 0 || e != api.ErrTape || !x.Dead() || x.Read() != api.MaxTape {
			t.Errorf("Below %d: %d, %d, %d read", n, got, e, x.Read())
		}
	}
}

// P11.1: Binomial takes y coins, and tells how many are yes.
func TestBinomial(t *testing.T) {
	for _, y := range []int{math.MinInt, -64, -2, -1, 0} {
		coinless(t, "Binomial", binomial(y), 0, api.OK)
	}
	answers(t, "Binomial 1", binomial(1), "0", 0)
	answers(t, "Binomial 1", binomial(1), "1", 1)
	chance := rand.New(rand.NewSource(1))
	for y := 2; y < 200; y += 1 + y/7 {
		text := digits(chance.Uint64(), 64) + digits(chance.Uint64(), 64) + digits(chance.Uint64(), 64)
		text = text[:min(y, len(text))] + strings.Repeat("1", max(0, y-len(text)))
		for _, s := range []string{text, strings.Repeat("0", y), strings.Repeat("1", y), "1" + strings.Repeat("0", y-1), strings.Repeat("0", y-1) + "1"} {
			answers(t, "Binomial", binomial(y), s, uint64(strings.Count(s, "1")))
		}
	}
}

// P11.1: of as many coins as there are, and of more: it ends with the tape.
func TestBinomialOfMany(t *testing.T) {
	for _, y := range []int{1, 5, 1000, api.MaxTape} {
		x := tape.New(slices.Repeat([]bool{true}, y)...)
		if n, e := draw.Binomial(x, y); n != y || e != api.OK || x.Left() != 0 || x.Dead() {
			t.Errorf("all of %d: %d, %d", y, n, e)
		}
		for _, more := range []int{y + 1, 2 * y, math.MaxInt32, math.MaxInt - 1, math.MaxInt} {
			x.Back(0)
			n, e := draw.Binomial(x, max(more, y+1))
			if n != 0 || e != api.ErrTape || !x.Dead() || x.Read() != y {
				t.Errorf("%d of %d: %d, %d, %d read", more, y, n, e, x.Read())
			}
		}
	}
}

// P11.1: a whole number needs no coin.
func TestRoundWhole(t *testing.T) {
	coinless(t, "the zero Rat", round(rat.Rat{}), 0, api.OK)
	for _, n := range []int{0, 1, 2, 7, 1 << 20, 1<<32 + 1, api.MaxTotal - 1, api.MaxTotal} {
		coinless(t, "a whole number", round(rat.Of(n)), uint64(n), api.OK)
		coinless(t, "a whole number", round(rat.Nat(nat.Of(uint64(n)))), uint64(n), api.OK)
	}
	coinless(t, "6 by 3", round(frac(6, 3)), 2, api.OK)
	coinless(t, "-6 by -3", round(frac(-6, -3)), 2, api.OK)
	coinless(t, "0 by 7", round(frac(0, -7)), 0, api.OK)
}

// long makes n less 1 by a number of so many bits, or n and that.
func long(n, wide int, more bool) rat.Rat {
	small, e := rat.Half(wide)
	if e != api.OK {
		panic("no such half")
	}
	if more {
		return rat.Add(rat.Of(n), small)
	}
	return rat.Sub(rat.Of(n), small)
}

// P11.1: what is below 0, or above 2^40, takes no coin, by however little.
func TestRoundRange(t *testing.T) {
	for _, x := range []rat.Rat{
		rat.Of(-1), rat.Of(math.MinInt), frac(-1, 2), frac(1, -3), frac(-7, 2), frac(-1, math.MaxInt), frac(math.MinInt, 3), long(0, 8000, false),
		rat.Of(api.MaxTotal + 1), rat.Of(math.MaxInt), frac(math.MaxInt, 2), frac(2*api.MaxTotal+1, 2), frac(3*api.MaxTotal+1, 3), long(api.MaxTotal, 8000, true),
		rat.Nat(nat.Of(0, 1)), rat.Nat(nat.Of(5, 0, 7)), rat.Sub(rat.Of(0), rat.Nat(nat.Of(5, 0, 7))),
	} {
		coinless(t, "Round "+x.Text(), round(x), 0, api.ErrRange)
	}
}

// P11.1: fractions of which the digits are known: up is what flip.Ratio says
// of what is above the floor.
func TestRound(t *testing.T) {
	for _, x := range []struct {
		x    rat.Rat
		text string
		want uint64
	}{
		{frac(1, 2), "0", 1},
		{frac(1, 2), "1", 0},
		{frac(-3, -6), "0", 1},
		{frac(1, 3), "1", 0},
		{frac(1, 3), "00", 1},
		{frac(1, 3), "011", 0},
		{frac(7, 3), "1", 2},
		{frac(7, 3), "00", 3},
		{frac(8, 3), "0", 3},
		{frac(8, 3), "11", 2},
		{frac(8, 3), "100", 3},
		{frac(15, 4), "0", 4},
		{frac(15, 4), "10", 4},
		{frac(15, 4), "11", 3},
		{frac(41, 8), "000", 6},
		{frac(41, 8), "001", 5},
		{frac(41, 8), "01", 5},
		{frac(41, 8), "1", 5},
		{frac(2*api.MaxTotal-1, 2), "0", api.MaxTotal},
		{frac(2*api.MaxTotal-1, 2), "1", api.MaxTotal - 1},
		{frac(3*api.MaxTotal-1, 3), "0", api.MaxTotal},
		{frac(3*api.MaxTotal-1, 3), "11", api.MaxTotal - 1},
		{long(api.MaxTotal, 100, false), strings.Repeat("1", 99) + "0", api.MaxTotal},
		{long(api.MaxTotal, 100, false), strings.Repeat("1", 100), api.MaxTotal - 1},
		{long(5, 300, true), strings.Repeat("0", 300), 6},
		{long(5, 300, true), strings.Repeat("0", 299) + "1", 5},
	} {
		answers(t, "Round "+x.x.Text(), round(x.x), x.text, x.want)
	}
	tooFew(t, "Round 1 by 3", round(frac(1, 3)), "010101010101")
	tooFew(t, "Round 20 by 3", round(frac(20, 3)), "10101010101")
}

// model tells by the library's numbers what the chapters say that Round of p
// by q answers of these coins, and how many of them it takes.
func model(p, q *big.Int, text string) (uint64, int, api.Errno) {
	floor, r := new(big.Int).QuoRem(p, q, new(big.Int))
	if r.Sign() == 0 {
		return floor.Uint64(), 0, api.OK
	}
	for i := range text {
		r.Lsh(r, 1)
		digit := byte('0')
		if r.Cmp(q) >= 0 {
			r.Sub(r, q)
			digit = '1'
		}
		if text[i] != digit {
			return floor.Uint64() + uint64(digit-'0'), i + 1, api.OK
		}
		if r.Sign() == 0 {
			return floor.Uint64(), i + 1, api.OK
		}
	}
	return 0, len(text), api.ErrTape
}

// expansion tells the first n binary digits of p by q, of what is above the
// floor.
func expansion(p, q *big.Int, n int) string {
	r := new(big.Int).Rem(p, q)
	r.Lsh(r, uint(n)).Quo(r, q)
	text := r.Text(2)
	if r.Sign() == 0 {
		text = ""
	}
	return strings.Repeat("0", n-len(text)) + text
}

// of makes a natural number of the library's.
func of(n *big.Int) nat.Nat {
	a, e := nat.Parse(n.String())
	if e != api.OK {
		panic(n.String())
	}
	return a
}

// P11.1: fractions with long denominators, against the model: coins that go
// with their digits for a while, and then are others.
func TestRoundLong(t *testing.T) {
	chance := rand.New(rand.NewSource(2))
	for i := range 1500 {
		q := new(big.Int).Rand(chance, new(big.Int).Lsh(big.NewInt(1), uint(1+chance.Intn(400))))
		q.Add(q, big.NewInt(1))
		if i%5 == 0 { // as rescaled cells have it
			q.Lsh(big.NewInt(1), uint(chance.Intn(200)))
		}
		p := new(big.Int).Rand(chance, new(big.Int).Lsh(q, uint(1+chance.Intn(40))))
		x, e := rat.Frac(whole.Make(false, of(p)), whole.Make(false, of(q)))
		if e != api.OK {
			t.Fatal(e)
		}
		text := expansion(p, q, chance.Intn(1+i%300)) + digits(chance.Uint64(), chance.Intn(8))
		got, e := draw.Round(tape.New(coinsOf(text)...), x)
		want, read, fault := model(p, q, text)
		if uint64(got) != want || e != fault {
			t.Fatalf("Round %s of %s: %d, %d, not %d, %d", x.Text(), text, got, e, want, fault)
		}
		if fault == api.OK {
			answers(t, "Round "+x.Text(), round(x), text[:read], want)
		} else {
			tooFew(t, "Round "+x.Text(), round(x), text)
		}
	}
}

// P11.1: each takes coins from the tape's next one on, and leaves those behind
// to the next call; back there it answers the same.
func TestNext(t *testing.T) {
	x := tape.New(coinsOf("1101" + "10110" + "0" + "1111110" + "11" + "0")...)
	for range 2 {
		for i, c := range []struct {
			ask  call
			want uint64
			read int
		}{
			{below(3), 1, 4},
			{binomial(5), 3, 9},
			{below(1), 0, 9},
			{round(frac(7, 2)), 4, 10},
			{round(rat.Of(9)), 9, 10},
			{binomial(0), 0, 10},
			{below(127), 126, 17},
			{round(frac(3, 4)), 0, 19},
			{binomial(1), 0, 20},
		} {
			got, e := c.ask(x)
			if got != c.want || e != api.OK || x.Read() != c.read || x.Dead() {
				t.Fatalf("call %d: %d, %d, %d read, not %d, %d", i, got, e, x.Read(), c.want, c.read)
			}
		}
		for _, ask := range []call{below(2), below(3), below(math.MaxUint64), binomial(1), binomial(math.MaxInt), round(frac(1, 2)), round(frac(22, 7))} {
			if got, e := ask(x); got != 0 || e != api.ErrTape || x.Read() != 20 || !x.Dead() {
				t.Fatalf("at the end: %d, %d, %d read", got, e, x.Read())
			}
		}
		x.Back(0)
	}
}

// Rule 5: Round changes nothing of the fraction that it is handed.
func TestUnchanged(t *testing.T) {
	x, _ := rat.Frac(whole.Make(false, nat.Of(7, 8, 9)), whole.Make(false, nat.Of(5, 6, 11)))
	text := x.Text()
	for _, coins := range []string{"", "0", "00000111110000011", "11111"} {
		draw.Round(tape.New(coinsOf(coins)...), x)
		if x.Text() != text {
			t.Fatalf("of %s: %s, not %s", coins, x.Text(), text)
		}
	}
}

// P1: each call ends without a panic, whatever it is given; beside an error it
// answers 0, and the tape is dead just of ErrTape.
func TestEveryArgument(t *testing.T) {
	chance := rand.New(rand.NewSource(3))
	for range 20000 {
		b := make([]byte, chance.Intn(20))
		chance.Read(b)
		n := chance.Uint64() >> chance.Intn(64)
		if chance.Intn(2) == 0 {
			n = -n
		}
		x := frac(int(n), int(chance.Uint64()>>chance.Intn(64)|1))
		for i, ask := range []call{below(n), binomial(int(n)), round(x)} {
			y := tape.FromBytes(b, chance.Intn(170))
			count := y.Left()
			got, e := ask(y)
			if e != api.OK && (got != 0 || e != api.ErrTape && (e != api.ErrRange || y.Read() != 0)) {
				t.Fatalf("call %d of %d, %s: %d, %d", i, n, x.Text(), got, e)
			}
			if y.Dead() != (e == api.ErrTape) || y.Read()+y.Left() != count || y.Dead() && y.Left() != 0 {
				t.Fatalf("call %d of %d, %s: %d, %d read, %d left of %d", i, n, x.Text(), e, y.Read(), y.Left(), count)
			}
		}
	}
}
