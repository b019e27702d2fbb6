package float_test

import (
	"math"
	"math/big"
	"testing"

	"tallymark/api"
	"tallymark/float"
	"tallymark/rat"
	"tallymark/tape"
)

const last = 1023 // the greatest place

// is holds the chance and the value of a place against their texts.
func is(t *testing.T, d, k int, chance, value string) {
	t.Helper()
	x, e := float.Chance(d, k)
	n, f := float.Value(d, k)
	if x.Text() != chance || n.Text() != value || e != api.OK || f != api.OK {
		t.Errorf("d %d at %d: %s, %d; %s, %d; not %s, %s", d, k, x.Text(), e, n.Text(), f, chance, value)
	}
}

// P13.1: the example of the chapter.
func TestExample(t *testing.T) {
	for k, want := range []struct{ chance, value string }{{"1", "0"}, {"1", "1"}, {"1/2", "2"}, {"1/2", "4"}, {"1/4", "6"}, {"1/4", "10"}} {
		is(t, 1, k, want.chance, want.value)
	}
}

// Layer 13: d is 0 to 8.
func TestGood(t *testing.T) {
	for d, want := range map[int]bool{-1: false, 0: true, 1: true, 7: true, 8: true, 9: false, math.MinInt: false, math.MaxInt: false} {
		if got := float.Good(d); got != want {
			t.Errorf("Good(%d) is %v", d, got)
		}
	}
}

// P13.1: places that are known: those about which the exponent goes up, and
// those of the highest one of each d.
func TestKnown(t *testing.T) {
	for _, x := range []struct {
		d, k          int
		chance, value string
	}{
		{0, 0, "1", "0"},
		{0, 1, "1/2", "1"},
		{0, 2, "1/4", "3"},
		{0, 3, "1/8", "7"},
		{0, 20, "1/1048576", "1048575"},
		{2, 3, "1", "3"},
		{2, 4, "1/2", "4"},
		{2, 7, "1/2", "10"},
		{2, 8, "1/4", "12"},
		{2, 9, "1/4", "16"},
		{7, 127, "1", "127"},
		{7, 128, "1/2", "128"},
		{7, 129, "1/2", "130"},
		{7, last, "1/128", "32512"},
		{8, 0, "1", "0"},
		{8, 255, "1", "255"},
		{8, 256, "1/2", "256"},
		{8, 257, "1/2", "258"},
		{8, 511, "1/2", "766"},
		{8, 512, "1/4", "768"},
		{8, 767, "1/4", "1788"},
		{8, 768, "1/8", "1792"},
		{8, last, "1/8", "3832"},
	} {
		is(t, x.d, x.k, x.chance, x.value)
	}
	high := new(big.Int).Lsh(big.NewInt(1), last)
	is(t, 0, last, "1/"+high.String(), new(big.Int).Sub(high, big.NewInt(1)).String())
	high = new(big.Int).Lsh(big.NewInt(1), last/2)
	is(t, 1, last, "1/"+high.String(), high.Mul(high, big.NewInt(3)).Sub(high, big.NewInt(2)).String())
}

// P13.1: of each d and each k what the chapter's words come to: 2 to the d and
// the mantissa, times 2 to the exponent, less 2 to the d.
func TestWords(t *testing.T) {
	for d := range 9 {
		ahead := 1 << d
		for k := range last + 1 {
			u, v := uint(k/ahead), k%ahead
			power := new(big.Int).Lsh(big.NewInt(1), u)
			value := new(big.Int).Mul(big.NewInt(int64(ahead+v)), power)
			value.Sub(value, big.NewInt(int64(ahead)))
			is(t, d, k, new(big.Rat).SetFrac(big.NewInt(1), power).RatString(), value.String())
		}
	}
}

// P13.1: a d that may not be goes ahead of a place that isn't there; beside the
// error there is nothing.
func TestErrors(t *testing.T) {
	for _, x := range []struct {
		d, k int
		want api.Errno
	}{
		{-1, 0, api.ErrParam},
		{-1, -1, api.ErrParam},
		{9, 1024, api.ErrParam},
		{math.MaxInt, math.MinInt, api.ErrParam},
		{0, -1, api.ErrRange},
		{0, 1024, api.ErrRange},
		{8, math.MinInt, api.ErrRange},
		{8, math.MaxInt, api.ErrRange},
	} {
		chance, e := float.Chance(x.d, x.k)
		value, f := float.Value(x.d, x.k)
		if e != x.want || f != x.want || rat.Cmp(chance, rat.Rat{}) != 0 || !value.Zero() {
			t.Errorf("d %d, k %d: %s, %d; %s, %d; not %d", x.d, x.k, chance.Text(), e, value.Text(), f, x.want)
		}
	}
}

// P13.2: steps of which the coins are known, as many yes as the exponent, less
// that of from; of an error none is taken. (Package steps asks for the rest, of
// float and of yu.)
func TestStep(t *testing.T) {
	for _, x := range []struct {
		d, k, from int
		coins      []bool
		want       bool
		fault      api.Errno
		read       int
	}{
		{1, 1, 0, []bool{false}, true, api.OK, 0},
		{1, 2, 0, []bool{true, false}, true, api.OK, 1},
		{1, 3, 0, []bool{false, true}, false, api.OK, 1},
		{1, 5, 0, []bool{true, false}, false, api.OK, 2},
		{1, 5, 0, []bool{true}, false, api.ErrTape, 1},
		{1, 5, 1, []bool{true, true}, true, api.OK, 2},
		{1, 5, 2, []bool{true, true}, true, api.OK, 1},
		{1, 5, 3, nil, false, api.ErrTape, 0},
		{1, 4, 3, []bool{true, false}, true, api.OK, 1},
		{1, 5, 4, []bool{false}, true, api.OK, 0},
		{1, 4, 1023, nil, true, api.OK, 0},
		{8, 255, 0, nil, true, api.OK, 0},
		{8, 256, 0, []bool{true}, true, api.OK, 1},
		{8, 1023, 767, []bool{false}, false, api.OK, 1},
		{0, 1023, 1021, []bool{true, true, false}, true, api.OK, 2},
		{9, 1024, 0, []bool{true}, false, api.ErrParam, 0},
		{-1, 2, -1, []bool{true}, false, api.ErrParam, 0},
		{1, 1024, 0, []bool{true}, false, api.ErrRange, 0},
		{1, 2, -1, []bool{true}, false, api.ErrRange, 0},
		{1, 2, 1024, []bool{true}, false, api.ErrRange, 0},
	} {
		y := tape.New(x.coins...)
		got, e := float.Again(y, x.d, x.k, x.from)
		if got != x.want || e != x.fault || y.Read() != x.read || y.Dead() != (e == api.ErrTape) {
			t.Errorf("d %d: Again at %d of %d: %v, %d, %d read", x.d, x.k, x.from, got, e, y.Read())
		}
		if x.from != 0 {
			continue
		}
		y = tape.New(x.coins...)
		if got, e := float.Step(y, x.d, x.k); got != x.want || e != x.fault || y.Read() != x.read {
			t.Errorf("d %d: Step at %d: %v, %d, %d read", x.d, x.k, got, e, y.Read())
		}
	}
}
