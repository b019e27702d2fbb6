package thin_test

import (
	"math"
	"math/big"
	"testing"

	"tallymark/api"
	"tallymark/thin"
)

// params are some that may be, those at the ends among them.
var params = []thin.Param{
	{Most: 1, Times: 0},
	{Most: 1, Times: 1},
	{Most: 1, Times: 20},
	{Most: 2, Times: 0},
	{Most: 2, Times: 3},
	{Most: 3, Times: 2},
	{Most: 7, Times: 1},
	{Most: 15, Times: 4},
	{Most: 100, Times: 10},
	{Most: 1023, Times: 0},
	{Most: 1023, Times: 20},
}

// bad are some that may not be.
var bad = []thin.Param{
	{},
	{Most: 0, Times: 0},
	{Most: 0, Times: 20},
	{Most: -1, Times: 3},
	{Most: 1024, Times: 3},
	{Most: 1025, Times: 0},
	{Most: math.MinInt, Times: 3},
	{Most: math.MaxInt, Times: 3},
	{Most: 1, Times: -1},
	{Most: 1023, Times: -1},
	{Most: 3, Times: 21},
	{Most: 3, Times: 22},
	{Most: 3, Times: math.MinInt},
	{Most: 3, Times: math.MaxInt},
	{Most: 0, Times: 21},
	{Most: math.MaxInt, Times: math.MaxInt},
}

// P16.1: Most is 1 to 1023, and Times 0 to 20.
func TestCheck(t *testing.T) {
	for most := -3; most <= 1030; most++ {
		for times := -3; times <= 25; times++ {
			want := api.OK
			if most < 1 || most > 1023 || times < 0 || times > 20 {
				want = api.ErrParam
			}
			if got := (thin.Param{Most: most, Times: times}).Check(); got != want {
				t.Errorf("Most %d, Times %d: %d", most, times, got)
			}
		}
	}
	for _, p := range params {
		if e := p.Check(); e != api.OK {
			t.Errorf("%v: %d", p, e)
		}
	}
	for _, p := range bad {
		if e := p.Check(); e != api.ErrParam {
			t.Errorf("%v: %d", p, e)
		}
	}
}

// well asks whether a State of a Param that may be is one, by the chapter's
// words.
func well(p thin.Param, s thin.State) bool {
	switch {
	case s.Y < 0, s.Y > p.Most, s.T < 0, s.T > p.Times:
		return false
	}
	return s.T == p.Times || !s.Full
}

// about are numbers about 0 and about another one, and far ones.
func about(n int) []int {
	return []int{-2, -1, 0, 1, n / 2, n - 1, n, n + 1, n + 2, math.MinInt, math.MaxInt}
}

// statesAbout tells states that may be, and others about them.
func statesAbout(p thin.Param) []thin.State {
	var l []thin.State
	for _, y := range about(p.Most) {
		for _, times := range about(p.Times) {
			l = append(l, thin.State{Y: y, T: times}, thin.State{Y: y, T: times, Full: true})
		}
	}
	return l
}

// P16.1: Well, at each edge.
func TestWell(t *testing.T) {
	for _, p := range params {
		for _, s := range statesAbout(p) {
			if got := p.Well(s); got != well(p, s) {
				t.Errorf("%v: Well of %v is %v", p, s, got)
			}
		}
	}
	for _, p := range bad {
		for _, s := range append(statesAbout(p), statesAbout(thin.Param{Most: 3, Times: 2})...) {
			if p.Well(s) {
				t.Errorf("%v: Well of %v", p, s)
			}
		}
	}
}

// P16.1: states that are known.
func TestWellKnown(t *testing.T) {
	p := thin.Param{Most: 3, Times: 2}
	for _, x := range []struct {
		s    thin.State
		want bool
	}{
		{thin.State{}, true},
		{thin.State{Y: 3}, true},
		{thin.State{Y: 4}, false},
		{thin.State{Y: -1}, false},
		{thin.State{T: 2}, true},
		{thin.State{T: 3}, false},
		{thin.State{T: -1}, false},
		{thin.State{Y: 3, T: 2, Full: true}, true},
		{thin.State{Y: 0, T: 2, Full: true}, true},
		{thin.State{Y: 3, T: 1, Full: true}, false},
		{thin.State{Y: 3, T: 0, Full: true}, false},
		{thin.State{Y: 3, T: 3, Full: true}, false},
	} {
		if got := p.Well(x.s); got != x.want {
			t.Errorf("Well of %v is %v", x.s, got)
		}
	}
	if p := (thin.Param{Most: 3}); !p.Well(thin.State{Y: 1, Full: true}) {
		t.Error("Full, where nothing is ever thinned, isn't Well")
	}
}

// P16.1: Value is Y times 2 to the T; what is wrong with the Param goes ahead of
// a State that isn't Well, and beside an error there is nothing.
func TestValue(t *testing.T) {
	for _, p := range params {
		for _, s := range statesAbout(p) {
			got, e := p.Value(s)
			want, fault := "0", api.ErrRange
			if well(p, s) {
				power := new(big.Int).Exp(big.NewInt(2), big.NewInt(int64(s.T)), nil)
				want, fault = power.Mul(power, big.NewInt(int64(s.Y))).String(), api.OK
			}
			if got.Text() != want || e != fault {
				t.Errorf("%v: Value of %v is %s, %d, not %s, %d", p, s, got.Text(), e, want, fault)
			}
		}
	}
	for _, p := range bad {
		for _, s := range append(statesAbout(p), thin.State{Y: 1, T: 1}) {
			if got, e := p.Value(s); e != api.ErrParam || !got.Zero() {
				t.Errorf("%v: Value of %v is %s, %d", p, s, got.Text(), e)
			}
		}
	}
}

// P16.1: values that are known.
func TestValueKnown(t *testing.T) {
	p := thin.Param{Most: 1023, Times: 20}
	for _, x := range []struct {
		s    thin.State
		want string
	}{
		{thin.State{}, "0"},
		{thin.State{Y: 1023}, "1023"},
		{thin.State{Y: 3, T: 2}, "12"},
		{thin.State{Y: 1, T: 20}, "1048576"},
		{thin.State{Y: 0, T: 20, Full: true}, "0"},
		{thin.State{Y: 1023, T: 20, Full: true}, "1072693248"},
	} {
		if got, e := p.Value(x.s); got.Text() != x.want || e != api.OK {
			t.Errorf("Value of %v is %s, %d, not %s", x.s, got.Text(), e, x.want)
		}
	}
}
