package laws

import (
	"fmt"
	"math/big"
	"testing"

	"tallymark/api"
	"tallymark/tape"
	"tallymark/thin"
)

var thins = []thin.Param{
	{Most: 1, Times: 0},
	{Most: 1, Times: 1},
	{Most: 1, Times: 3},
	{Most: 2, Times: 0},
	{Most: 2, Times: 2},
	{Most: 3, Times: 1},
	{Most: 3, Times: 2},
	{Most: 4, Times: 1},
}

// plenty are more coins than any of these calls takes.
const plenty = 60

// states tells all that may be.
func states(p thin.Param) []thin.State {
	var l []thin.State
	for y := range p.Most + 1 {
		for times := range p.Times + 1 {
			l = append(l, thin.State{Y: y, T: times})
		}
		l = append(l, thin.State{Y: y, T: p.Times, Full: true})
	}
	return l
}

// law is how likely states are, and what is lost in the mean where one gets
// full.
type law struct {
	p    thin.Param
	of   map[thin.State]*big.Rat
	lost *big.Rat
}

func newLaw(p thin.Param) law { return law{p, map[thin.State]*big.Rat{}, new(big.Rat)} }

// left tells how likely each number is that is left of y, thinned so often: each
// of them is with the chance 1 by 2 to the times.
func left(y, times int) []*big.Rat {
	l := make([]*big.Rat, y+1)
	gone := new(big.Rat).Sub(big.NewRat(1, 1), half(times))
	for j := range l {
		l[j] = new(big.Rat).SetInt(new(big.Int).Binomial(int64(y), int64(j)))
		for i := range y {
			if i < j {
				l[j].Mul(l[j], half(times))
			} else {
				l[j].Mul(l[j], gone)
			}
		}
	}
	return l
}

// worth tells what y counters stand for that were thinned so often.
func worth(y, times int) *big.Rat {
	return new(big.Rat).Mul(big.NewRat(int64(y), 1), new(big.Rat).Inv(half(times)))
}

// down puts a counter of a weight where it is when it was brought down.
func (l law) down(s thin.State, w *big.Rat) {
	switch {
	case s.Y <= l.p.Most:
		put(l.of, s, w)
	case s.T == l.p.Times:
		l.lost.Add(l.lost, new(big.Rat).Mul(w, worth(s.Y-l.p.Most, s.T)))
		put(l.of, thin.State{Y: l.p.Most, T: s.T, Full: true}, w)
	default:
		for y, chance := range left(s.Y, 1) {
			l.down(thin.State{Y: y, T: s.T + 1, Full: s.Full}, new(big.Rat).Mul(w, chance))
		}
	}
}

// more tells the law when one more was counted.
func (l law) more() law {
	next := newLaw(l.p)
	next.lost.Set(l.lost)
	for s, w := range l.of {
		up := new(big.Rat).Mul(w, half(s.T))
		put(next.of, s, new(big.Rat).Sub(w, up))
		s.Y++
		next.down(s, up)
	}
	return next
}

// countLaw tells the law when n were counted from a state on.
func countLaw(p thin.Param, s thin.State, n int) law {
	l := newLaw(p)
	put(l.of, s, big.NewRat(1, 1))
	for range n {
		l = l.more()
	}
	return l
}

// mergeLaw tells the law of two, merged: of either that was thinned less often
// each is left with the chance of that.
func mergeLaw(p thin.Param, s, o thin.State) law {
	l, often := newLaw(p), max(s.T, o.T)
	for y, chance := range left(s.Y, often-s.T) {
		for other, too := range left(o.Y, often-o.T) {
			l.down(thin.State{Y: y + other, T: often, Full: s.Full || o.Full}, new(big.Rat).Mul(chance, too))
		}
	}
	return l
}

// value tells what a state stands for.
func value(t *testing.T, p thin.Param, s thin.State) *big.Rat {
	t.Helper()
	n, e := p.Value(s)
	v, ok := new(big.Rat).SetString(n.Text())
	if e != api.OK || !ok {
		t.Fatalf("%v: Value of %v is %s, %d", p, s, n.Text(), e)
	}
	return v
}

// mean tells what states stand for in the mean.
func mean(t *testing.T, p thin.Param, of map[thin.State]*big.Rat) *big.Rat {
	t.Helper()
	sum := new(big.Rat)
	for s, w := range of {
		v := value(t, p, s)
		sum.Add(sum, v.Mul(v, w))
	}
	return sum
}

// holds goes through all tapes of a call. Each state weighs as much as the law
// says, and may be; the mean of what is told is what was counted, but for what
// is lost as it gets full.
func (l law) holds(t *testing.T, ask call[thin.State], counted *big.Rat) {
	t.Helper()
	found := goThrough(t, ask.what, plenty, ask.do).done(t, ask.what)
	got := weights(found, func(s thin.State) thin.State { return s })
	weigh(t, ask.what, got, l.of, found.open)
	for s := range got {
		if !l.p.Well(s) {
			t.Fatalf("%s: %v isn't Well", ask.what, s)
		}
	}
	told := mean(t, l.p, got)
	if told.Add(told, l.lost).Cmp(counted) != 0 {
		t.Fatalf("%s: the mean is %s with what is lost, not %s", ask.what, told, counted)
	}
}

// stand tells what states stand for together, and so many more.
func stand(t *testing.T, p thin.Param, more int, l ...thin.State) *big.Rat {
	t.Helper()
	sum := big.NewRat(int64(more), 1)
	for _, s := range l {
		sum.Add(sum, value(t, p, s))
	}
	return sum
}

// P16.2, P16.3: all tapes of an Inc, of each state that may be.
func TestAllThinInc(t *testing.T) {
	for _, p := range thins {
		for _, s := range states(p) {
			countLaw(p, s, 1).holds(t, inc(p, s), stand(t, p, 1, s))
		}
	}
}

// P16.2, P16.3: all tapes of an Add, of some states.
func TestAllThinAdd(t *testing.T) {
	for _, p := range thins {
		for _, s := range []thin.State{{}, {Y: 1}, {Y: 0, T: p.Times}, {Y: p.Most, T: p.Times / 2}} {
			for n := range 6 {
				countLaw(p, s, n).holds(t, add(p, s, n), stand(t, p, n, s))
			}
		}
	}
}

// P16.2, P16.3: all tapes of a Merge, of any two states that may be.
func TestAllThinMerge(t *testing.T) {
	for _, p := range thins {
		for _, s := range states(p) {
			for _, o := range states(p) {
				mergeLaw(p, s, o).holds(t, merge(p, s, o), stand(t, p, 0, s, o))
			}
		}
	}
}

// P3: a counter that was merged goes on as it should: in the mean one more is
// told for each that is counted.
func TestThinGoesOn(t *testing.T) {
	p := thin.Param{Most: 3, Times: 2}
	for _, s := range states(p) {
		for _, o := range []thin.State{{}, {Y: 2}, {Y: 1, T: 1}} {
			both := merge(p, s, o)
			on := func(t *tape.Tape) (thin.State, api.Errno) {
				now, e := both.do(t)
				if e != api.OK {
					return now, e
				}
				return p.Inc(t, now)
			}
			ask := call[thin.State]{what: both.what + ", and one more", do: on}
			mergeLaw(p, s, o).more().holds(t, ask, stand(t, p, 1, s, o))
		}
	}
}

// P16.3: where no tape makes it Full, the mean of Value is just what was
// counted, of Inc, Add and Merge.
func TestThinMean(t *testing.T) {
	p := thin.Param{Most: 8, Times: 3}
	for _, x := range []struct {
		ask     call[thin.State]
		counted int64
	}{
		{inc(p, kept(0, 0)), 1},
		{inc(p, kept(7, 0)), 8},
		{inc(p, kept(4, 1)), 9},
		{inc(p, kept(7, 3)), 57},
		{add(p, kept(0, 0), 8), 8},
		{add(p, kept(3, 1), 5), 11},
		{add(p, kept(1, 2), 5), 9},
		{add(p, kept(2, 3), 4), 20},
		{merge(p, kept(3, 0), kept(5, 0)), 8},
		{merge(p, kept(3, 2), kept(5, 2)), 32},
		{merge(p, kept(4, 0), kept(4, 1)), 12},
		{merge(p, kept(4, 1), kept(4, 0)), 12},
		{merge(p, kept(5, 0), kept(3, 3)), 29},
		{merge(p, kept(2, 3), kept(6, 1)), 28},
		{merge(p, kept(8, 0), kept(0, 3)), 8},
	} {
		l := goThrough(t, x.ask.what, plenty, x.ask.do).done(t, x.ask.what)
		got := weights(l, func(s thin.State) thin.State { return s })
		for s := range got {
			if s.Full {
				t.Fatalf("%s: %v", x.ask.what, s)
			}
		}
		if told := mean(t, p, got); told.Cmp(big.NewRat(x.counted, 1)) != 0 {
			t.Errorf("%s: the mean is %s, not %d", x.ask.what, told, x.counted)
		}
	}
}

// end is where two counters are, merged, or the first of them that got full,
// and how many weren't counted then.
type end struct {
	s    thin.State
	rest int
}

// counts counts n in one and m in another one, and merges them.
func counts(p thin.Param, n, m int) deed[end] {
	return func(t *tape.Tape) (end, api.Errno) {
		var l [2]thin.State
		for i := range n + m {
			which := 0
			if i >= n {
				which = 1
			}
			s, e := p.Inc(t, l[which])
			if e != api.OK {
				return end{}, e
			}
			if l[which] = s; s.Full {
				// What the other one stands for isn't lost, but isn't told, either.
				told := 0
				if which == 1 {
					told = l[0].Y << l[0].T
				}
				return end{s, told + n + m - 1 - i}, api.OK
			}
		}
		s, e := p.Merge(t, l[0], l[1])
		return end{s, 0}, e
	}
}

// P16.3: of counters from their beginning on the mean is what was counted, but
// for what those lose that get full: at least 1, and at most Most, times what
// one is then worth.
func TestThinCounted(t *testing.T) {
	for _, x := range []struct {
		p    thin.Param
		n, m int
	}{
		{thin.Param{Most: 1, Times: 2}, 2, 1},
		{thin.Param{Most: 1, Times: 2}, 0, 4},
		{thin.Param{Most: 1, Times: 3}, 2, 2},
		{thin.Param{Most: 1, Times: 4}, 3, 0},
		{thin.Param{Most: 1, Times: 6}, 1, 2},
		{thin.Param{Most: 2, Times: 2}, 3, 2},
		{thin.Param{Most: 2, Times: 3}, 2, 3},
		{thin.Param{Most: 2, Times: 5}, 4, 1},
		{thin.Param{Most: 3, Times: 2}, 5, 3},
		{thin.Param{Most: 3, Times: 4}, 2, 4},
	} {
		what := fmt.Sprintf("%v: %d and %d", x.p, x.n, x.m)
		l := goThrough(t, what, plenty, counts(x.p, x.n, x.m)).done(t, what)
		told, full := new(big.Rat), new(big.Rat)
		for e, w := range weights(l, func(e end) end { return e }) {
			v := value(t, x.p, e.s)
			v.Add(v, big.NewRat(int64(e.rest), 1))
			told.Add(told, v.Mul(v, w))
			if e.s.Full {
				full.Add(full, w)
			}
		}
		counted := big.NewRat(int64(x.n+x.m), 1)
		least := full.Mul(full, worth(1, x.p.Times))
		most := new(big.Rat).Mul(least, big.NewRat(int64(x.p.Most), 1))
		if lost := counted.Sub(counted, told); lost.Cmp(least) < 0 || lost.Cmp(most) > 0 {
			t.Errorf("%s: the mean is %s, %s less, not %s to %s", what, told, lost, least, most)
		}
	}
}
