package chain_test

import (
	"math"
	"math/big"
	"testing"

	"tallymark/api"
	"tallymark/chain"
	"tallymark/float"
	"tallymark/morris"
	"tallymark/rat"
	"tallymark/yu"
)

// params are some that may be, of each kind those at the ends among them; of
// Morris also those of the greatest A that may be with a Width.
var params = []chain.Param{
	{Kind: chain.Morris, A: 1, Width: 1},
	{Kind: chain.Morris, A: 1, Width: 2},
	{Kind: chain.Morris, A: 1, Width: 10},
	{Kind: chain.Morris, A: 2, Width: 3},
	{Kind: chain.Morris, A: 3, Width: 4},
	{Kind: chain.Morris, A: 100, Width: 8},
	{Kind: chain.Morris, A: 254, Width: 10},
	{Kind: chain.Morris, A: 4095, Width: 5},
	{Kind: chain.Morris, A: 4096, Width: 1},
	{Kind: chain.Morris, A: 4096, Width: 9},
	{Kind: chain.Float, A: 0, Width: 1},
	{Kind: chain.Float, A: 0, Width: 10},
	{Kind: chain.Float, A: 1, Width: 3},
	{Kind: chain.Float, A: 3, Width: 7},
	{Kind: chain.Float, A: 8, Width: 1},
	{Kind: chain.Float, A: 8, Width: 10},
	{Kind: chain.Yu, A: 1, Width: 1},
	{Kind: chain.Yu, A: 1, Width: 4},
	{Kind: chain.Yu, A: 2, Width: 6},
	{Kind: chain.Yu, A: 3, Width: 8},
	{Kind: chain.Yu, A: 5, Width: 10},
}

// bad are some that may not be: by their Kind, their A, their Width, by what an
// A of Morris needs with its Width, and by all of it.
var bad = []chain.Param{
	{},
	{Kind: 0, A: 1, Width: 3},
	{Kind: 4, A: 1, Width: 3},
	{Kind: -1, A: 1, Width: 3},
	{Kind: math.MinInt, A: 1, Width: 3},
	{Kind: math.MaxInt, A: 1, Width: 3},
	{Kind: chain.Morris, A: 0, Width: 3},
	{Kind: chain.Morris, A: -1, Width: 3},
	{Kind: chain.Morris, A: 4097, Width: 3},
	{Kind: chain.Morris, A: math.MinInt, Width: 3},
	{Kind: chain.Morris, A: math.MaxInt, Width: 3},
	{Kind: chain.Morris, A: 255, Width: 10},
	{Kind: chain.Morris, A: 4096, Width: 10},
	{Kind: chain.Float, A: -1, Width: 3},
	{Kind: chain.Float, A: 9, Width: 3},
	{Kind: chain.Float, A: math.MinInt, Width: 3},
	{Kind: chain.Float, A: math.MaxInt, Width: 3},
	{Kind: chain.Yu, A: 0, Width: 3},
	{Kind: chain.Yu, A: 6, Width: 3},
	{Kind: chain.Yu, A: math.MinInt, Width: 3},
	{Kind: chain.Yu, A: math.MaxInt, Width: 3},
	{Kind: chain.Morris, A: 1, Width: 0},
	{Kind: chain.Morris, A: 1, Width: 11},
	{Kind: chain.Float, A: 1, Width: 0},
	{Kind: chain.Float, A: 1, Width: 11},
	{Kind: chain.Float, A: 1, Width: -1},
	{Kind: chain.Yu, A: 1, Width: 0},
	{Kind: chain.Yu, A: 1, Width: 11},
	{Kind: chain.Yu, A: 1, Width: 64},
	{Kind: chain.Yu, A: 1, Width: math.MinInt},
	{Kind: chain.Yu, A: 1, Width: math.MaxInt},
	{Kind: math.MaxInt, A: math.MaxInt, Width: math.MaxInt},
	{Kind: math.MinInt, A: math.MinInt, Width: math.MinInt},
}

// P15.1: the kinds are 1 to 3, as numbers of no type.
func TestKinds(t *testing.T) {
	var l [4]uint8
	l[chain.Morris], l[chain.Float], l[chain.Yu] = chain.Morris, chain.Float, chain.Yu
	if l != [4]uint8{0, 1, 2, 3} {
		t.Errorf("%v", l)
	}
}

// bitsOf tells how many bits a number has.
func bitsOf(n int) int {
	count := 0
	for ; n > 0; n /= 2 {
		count++
	}
	return count
}

// may asks whether a Param may be, by the chapter's words.
func may(p chain.Param) bool {
	if p.Width < 1 || p.Width > 10 {
		return false
	}
	top := 1
	for range p.Width {
		top *= 2
	}
	top--
	switch p.Kind {
	case 1:
		return p.A >= 1 && p.A <= 4096 && bitsOf(p.A+1)*top <= 8192
	case 2:
		return p.A >= 0 && p.A <= 8
	case 3:
		return p.A >= 1 && p.A <= 5
	}
	return false
}

// checked asks Check and Top of a Param for what they should tell.
func checked(t *testing.T, p chain.Param, good bool) {
	t.Helper()
	e, top := api.ErrParam, 0
	if good {
		e, top = api.OK, int(math.Pow(2, float64(p.Width)))-1
	}
	if got, k := p.Check(), p.Top(); got != e || k != top {
		t.Errorf("%v: Check %d, Top %d, not %d, %d", p, got, k, e, top)
	}
}

// P15.1: Check and Top, of all Params about those that may be.
func TestCheck(t *testing.T) {
	for kind := -2; kind <= 6; kind++ {
		for width := -2; width <= 13; width++ {
			for a := -3; a <= 12; a++ {
				p := chain.Param{Kind: kind, A: a, Width: width}
				checked(t, p, may(p))
			}
		}
	}
	for width := range 12 {
		for a := 1; a <= 4100; a++ {
			p := chain.Param{Kind: chain.Morris, A: a, Width: width}
			checked(t, p, may(p))
		}
	}
	for _, p := range params {
		checked(t, p, true)
	}
	for _, p := range bad {
		checked(t, p, false)
	}
}

// P15.1: Morris's counter is refused where the bits of A + 1, times top, are
// more than 8192: only with the Width 10, of which top is 1023, and there from
// 9 bits on.
func TestCheckMorris(t *testing.T) {
	for _, x := range []struct {
		a, width int
		good     bool
	}{
		{253, 10, true},
		{254, 10, true},
		{255, 10, false},
		{256, 10, false},
		{511, 10, false},
		{4096, 10, false},
		{255, 9, true},
		{4095, 9, true},
		{4096, 9, true},
		{4097, 9, false},
	} {
		checked(t, chain.Param{Kind: chain.Morris, A: x.a, Width: x.width}, x.good)
	}
}

// place is what is told of a place.
type place struct{ chance, value, reply string }

// is holds what is told of a place against their texts.
func is(t *testing.T, p chain.Param, k int, want place) {
	t.Helper()
	chance, e := p.Chance(k)
	value, f := p.Value(k)
	reply, g := p.Reply(k)
	got := place{chance.Text(), value.Text(), reply.Text()}
	if got != want || e != api.OK || f != api.OK || g != api.OK {
		t.Fatalf("%v at %d: %v, %d, %d, %d; not %v", p, k, got, e, f, g, want)
	}
}

// P15.1: places that are known, up to the last one, of which the chance is 0.
func TestPlaces(t *testing.T) {
	for _, x := range []struct {
		p    chain.Param
		want []place
	}{
		{chain.Param{Kind: chain.Morris, A: 1, Width: 2}, []place{{"1", "0", "0"}, {"1/2", "1", "1"}, {"1/4", "3", "3"}, {"0", "7", "7"}}},
		{chain.Param{Kind: chain.Morris, A: 2, Width: 2}, []place{{"1", "0", "0"}, {"2/3", "1", "1"}, {"4/9", "5/2", "5/2"}, {"0", "19/4", "19/4"}}},
		{chain.Param{Kind: chain.Morris, A: 4096, Width: 1}, []place{{"1", "0", "0"}, {"0", "1", "1"}}},
		{chain.Param{Kind: chain.Float, A: 0, Width: 2}, []place{{"1", "0", "0"}, {"1/2", "1", "1"}, {"1/4", "3", "3"}, {"0", "7", "7"}}},
		{chain.Param{Kind: chain.Float, A: 1, Width: 2}, []place{{"1", "0", "0"}, {"1", "1", "1"}, {"1/2", "2", "2"}, {"0", "4", "4"}}},
		{chain.Param{Kind: chain.Float, A: 8, Width: 1}, []place{{"1", "0", "0"}, {"0", "1", "1"}}},
		{chain.Param{Kind: chain.Yu, A: 1, Width: 1}, []place{{"1", "0", "4"}, {"0", "1", "4"}}},
		{chain.Param{Kind: chain.Yu, A: 1, Width: 3}, []place{
			{"1", "0", "4"}, {"1", "1", "4"}, {"1", "2", "4"}, {"1", "3", "4"},
			{"1", "4", "6"}, {"1", "5", "6"}, {"1/2", "6", "9"}, {"0", "8", "9"},
		}},
		{chain.Param{Kind: chain.Yu, A: 5, Width: 1}, []place{{"1", "0", "1024"}, {"0", "1", "1024"}}},
	} {
		for k, want := range x.want {
			is(t, x.p, k, want)
		}
	}
}

// layer tells of a place what the kind's layer does.
func layer(t *testing.T, p chain.Param, k int) place {
	t.Helper()
	var chance, value, reply rat.Rat
	var e, f api.Errno
	switch p.Kind {
	case chain.Morris:
		chance, e = morris.Chance(p.A, k)
		value, f = morris.Value(p.A, k)
		reply = value
	case chain.Float:
		chance, e = float.Chance(p.A, k)
		n, g := float.Value(p.A, k)
		value, reply, f = rat.Nat(n), rat.Nat(n), g
	case chain.Yu:
		chance, e = yu.Chance(p.A, k)
		at, g := yu.At(p.A, k)
		value, reply, f = rat.Nat(at.Value), rat.Nat(at.Reply), g
	}
	if e != api.OK || f != api.OK {
		t.Fatalf("%v at %d: %d, %d", p, k, e, f)
	}
	return place{chance.Text(), value.Text(), reply.Text()}
}

// P15.1: of each place what the kind's layer tells, but for the chance of the
// last one. No place of a Param that may be is refused by its layer.
func TestLayers(t *testing.T) {
	for _, p := range params {
		top := p.Top()
		for k := 0; k <= top; k += 1 + k/40 {
			if k < top {
				is(t, p, k, layer(t, p, k))
			}
		}
		for _, k := range []int{max(0, top-1), top} {
			want := layer(t, p, k)
			if k == top {
				want.chance = "0"
			}
			is(t, p, k, want)
		}
	}
}

// P15.1: where a place stands for more than the one ahead of it, it is 1 by the
// chance of the step between: so in the mean a counter tells what was counted.
func TestSum(t *testing.T) {
	for _, p := range params {
		sum := new(big.Rat)
		for k := 0; k <= min(p.Top(), 60); k++ {
			value, _ := p.Value(k)
			if value.Text() != sum.RatString() {
				t.Fatalf("%v at %d: %s, not %s", p, k, value.Text(), sum.RatString())
			}
			chance, _ := p.Chance(k)
			if step, _ := new(big.Rat).SetString(chance.Text()); k < p.Top() {
				sum.Add(sum, step.Inv(step))
			}
		}
	}
}

// faulty asks Chance, Value and Reply for an error, beside which there is
// nothing.
func faulty(t *testing.T, p chain.Param, k int, want api.Errno) {
	t.Helper()
	for _, ask := range []func(int) (rat.Rat, api.Errno){p.Chance, p.Value, p.Reply} {
		if x, e := ask(k); e != want || rat.Cmp(x, rat.Rat{}) != 0 {
			t.Errorf("%v at %d: %s, %d, not %d", p, k, x.Text(), e, want)
		}
	}
}

// P15.1: what is wrong with the Param goes ahead of a place that isn't there.
func TestErrors(t *testing.T) {
	far := []int{-1, -2, math.MinInt, 1 << 20, math.MaxInt}
	for _, p := range bad {
		for _, k := range append(far, 0, 1, 3, 7, 8, 1023, 1024) {
			faulty(t, p, k, api.ErrParam)
		}
	}
	for _, p := range params {
		for _, k := range append(far, p.Top()+1, p.Top()+2, 1024) {
			faulty(t, p, k, api.ErrRange)
		}
	}
}
