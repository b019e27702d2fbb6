package laws

import (
	"math/big"
	"testing"

	"tallymark/api"
	"tallymark/chain"
	"tallymark/tape"
)

// small is a Param of which all tapes are gone through.
type small struct {
	p    chain.Param
	all  int  // so many are counted
	most int  // by at most so many coins
	ends bool // those are enough for all
}

var smalls = []small{
	{chain.Param{Kind: chain.Morris, A: 1, Width: 1}, 4, 40, true},
	{chain.Param{Kind: chain.Morris, A: 1, Width: 2}, 5, 40, true},
	{chain.Param{Kind: chain.Morris, A: 1, Width: 3}, 5, 40, true},
	{chain.Param{Kind: chain.Morris, A: 3, Width: 2}, 4, 40, true},
	{chain.Param{Kind: chain.Morris, A: 2, Width: 2}, 4, 13, false},
	{chain.Param{Kind: chain.Morris, A: 5, Width: 3}, 3, 13, false},
	{chain.Param{Kind: chain.Float, A: 0, Width: 2}, 5, 40, true},
	{chain.Param{Kind: chain.Float, A: 0, Width: 3}, 5, 40, true},
	{chain.Param{Kind: chain.Float, A: 1, Width: 2}, 6, 40, true},
	{chain.Param{Kind: chain.Float, A: 1, Width: 3}, 6, 40, true},
	{chain.Param{Kind: chain.Float, A: 2, Width: 3}, 8, 40, true},
	{chain.Param{Kind: chain.Yu, A: 1, Width: 3}, 9, 40, true},
	{chain.Param{Kind: chain.Yu, A: 1, Width: 4}, 12, 40, true},
}

// fraction tells the library's fraction of the chance of a step at k.
func fraction(t *testing.T, p chain.Param, k int) *big.Rat {
	t.Helper()
	x, e := p.Chance(k)
	y, ok := new(big.Rat).SetString(x.Text())
	if e != api.OK || !ok {
		t.Fatalf("%v: Chance at %d: %s, %d", p, k, x.Text(), e)
	}
	return y
}

// climbed tells how likely each place is after so many turns, by the chance of
// each of them where the counter then stands.
func climbed(p chain.Param, k, turns int, chance func(k, turn int) *big.Rat) map[int]*big.Rat {
	now := map[int]*big.Rat{k: big.NewRat(1, 1)}
	for turn := range turns {
		next := map[int]*big.Rat{}
		for k, w := range now {
			up := new(big.Rat).Mul(w, chance(k, turn))
			put(next, k, new(big.Rat).Sub(w, up))
			put(next, k+1, up)
		}
		now = next
	}
	return now
}

// put adds a weight to a place, if it is one.
func put[K comparable](m map[K]*big.Rat, k K, w *big.Rat) {
	if w.Sign() == 0 {
		return
	}
	if m[k] == nil {
		m[k] = new(big.Rat)
	}
	m[k].Add(m[k], w)
}

// counted tells how likely each place is when so many were counted from k on.
func counted(t *testing.T, p chain.Param, k, n int) map[int]*big.Rat {
	return climbed(p, k, n, func(k, _ int) *big.Rat { return fraction(t, p, k) })
}

// merged tells how likely each place is when one at o was merged into one at k:
// each step of o's, from r, is done again with the chance of one where the
// counter stands by that of one at r.
func merged(t *testing.T, p chain.Param, k, o int) map[int]*big.Rat {
	return climbed(p, k, o, func(k, r int) *big.Rat {
		if k < r {
			t.Errorf("%v: at %d, behind %d", p, k, r)
		}
		return new(big.Rat).Quo(fraction(t, p, k), fraction(t, p, r))
	})
}

func place(s chain.State) int { return s.K }

// holds goes through the tapes of a call, and holds what each place weighs
// against its chance.
func (x small) holds(t *testing.T, ask call[chain.State], want map[int]*big.Rat) {
	t.Helper()
	l := goThrough(t, ask.what, x.most, ask.do)
	if x.ends {
		l.done(t, ask.what)
	}
	weigh(t, ask.what, weights(l, place), want, l.open)
}

// count is an Add to a counter at 0.
func (x small) count(n int) call[chain.State] { return add(x.p, chain.State{}, n) }

// merge is a Merge of what two calls answer, all by one tape.
func (x small) merge(a, b call[chain.State]) call[chain.State] {
	return call[chain.State]{what: "(" + a.what + "; " + b.what + "; merged)", do: func(t *tape.Tape) (chain.State, api.Errno) {
		s, e := a.do(t)
		if e != api.OK {
			return chain.State{}, e
		}
		o, e := b.do(t)
		if e != api.OK {
			return chain.State{}, e
		}
		return x.p.Merge(t, s, o)
	}}
}

// P15.2, P3: all tapes of an Inc, from each place, Full or not: it goes on with
// the chance that is told.
func TestAllInc(t *testing.T) {
	for _, x := range smalls {
		for k := range x.p.Top() + 1 {
			for _, full := range []bool{false, true} {
				x.holds(t, inc(x.p, chain.State{K: k, Full: full}), counted(t, x.p, k, 1))
			}
		}
	}
}

// P15.2, P3: all tapes of an Add: each place is as likely as by the chances.
func TestAllAdd(t *testing.T) {
	for _, x := range smalls {
		for n := range x.all + 1 {
			x.holds(t, x.count(n), counted(t, x.p, 0, n))
		}
	}
}

// P15.3: all tapes of a Merge, of any two places: each of o's steps is done
// again with the chance of one where the counter stands by that of one at r.
func TestAllMerge(t *testing.T) {
	for _, x := range smalls {
		for k := range min(x.p.Top(), 9) + 1 {
			for o := range min(x.p.Top(), x.all, 9) + 1 {
				x.holds(t, merge(x.p, chain.State{K: k}, chain.State{K: o}), merged(t, x.p, k, o))
			}
		}
	}
}

// P15.4: n and m Incs of two counters, and their Merge, weigh each place as
// n + m Incs of one do.
func TestMergedIsCounted(t *testing.T) {
	for _, x := range smalls {
		for n := range x.all + 1 {
			for m := range x.all - n + 1 {
				x.holds(t, x.merge(x.count(n), x.count(m)), counted(t, x.p, 0, n+m))
			}
		}
	}
}

// P4: chains that are merged by whatever tree are as likely at each place as
// one that counted all.
func TestTrees(t *testing.T) {
	for _, x := range smalls {
		for _, n := range [][]int{{1, 1, 1, 1}, {2, 1, 1, 0}, {0, 2, 1, 1}, {1, 0, 2, 1}} {
			a, b, c, d := x.count(n[0]), x.count(n[1]), x.count(n[2]), x.count(n[3])
			for _, tree := range []call[chain.State]{
				x.merge(x.merge(x.merge(a, b), c), d),
				x.merge(a, x.merge(b, x.merge(c, d))),
				x.merge(x.merge(a, b), x.merge(c, d)),
				x.merge(x.merge(a, x.merge(b, c)), d),
				x.merge(a, x.merge(x.merge(b, c), d)),
			} {
				x.holds(t, tree, counted(t, x.p, 0, 4))
			}
		}
	}
}

// P4: a counter that was merged goes on as one that counted all.
func TestMergedGoesOn(t *testing.T) {
	for _, x := range smalls {
		both := x.merge(x.count(2), x.count(1))
		on := func(t *tape.Tape) (chain.State, api.Errno) {
			s, e := both.do(t)
			if e != api.OK {
				return chain.State{}, e
			}
			return x.p.Inc(t, s)
		}
		x.holds(t, call[chain.State]{what: both.what + ", and one more", do: on}, counted(t, x.p, 0, 4))
	}
}

// P3: while none is Full, the mean of Value is how many were counted, of Add and
// of Merge: of no more than there are places none is.
func TestChainMean(t *testing.T) {
	for _, x := range smalls {
		if !x.ends {
			continue
		}
		for n := range min(x.all, x.p.Top()) + 1 {
			for m := range n + 1 {
				ask := x.merge(x.count(n-m), x.count(m))
				l := goThrough(t, ask.what, x.most, ask.do).done(t, ask.what)
				mean := new(big.Rat)
				for s, w := range weights(l, func(s chain.State) chain.State { return s }) {
					value, _ := x.p.Value(s.K)
					v, _ := new(big.Rat).SetString(value.Text())
					if s.Full {
						t.Fatalf("%s: Full at %d", ask.what, s.K)
					}
					mean.Add(mean, v.Mul(v, w))
				}
				if mean.Cmp(big.NewRat(int64(n), 1)) != 0 {
					t.Fatalf("%s: the mean is %s", ask.what, mean)
				}
			}
		}
	}
}
