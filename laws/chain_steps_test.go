package laws

import (
	"math"
	"math/rand"
	"strings"
	"testing"

	"tallymark/api"
	"tallymark/chain"
	"tallymark/float"
	"tallymark/morris"
	"tallymark/tape"
	"tallymark/yu"
)

// chains are some Params that may be, of each kind those at the ends among them.
var chains = []chain.Param{
	{Kind: chain.Morris, A: 1, Width: 1},
	{Kind: chain.Morris, A: 1, Width: 10},
	{Kind: chain.Morris, A: 2, Width: 3},
	{Kind: chain.Morris, A: 254, Width: 10},
	{Kind: chain.Morris, A: 4096, Width: 1},
	{Kind: chain.Morris, A: 4096, Width: 9},
	{Kind: chain.Float, A: 0, Width: 1},
	{Kind: chain.Float, A: 0, Width: 10},
	{Kind: chain.Float, A: 1, Width: 3},
	{Kind: chain.Float, A: 3, Width: 7},
	{Kind: chain.Float, A: 8, Width: 10},
	{Kind: chain.Yu, A: 1, Width: 1},
	{Kind: chain.Yu, A: 1, Width: 4},
	{Kind: chain.Yu, A: 2, Width: 6},
	{Kind: chain.Yu, A: 5, Width: 10},
}

// noChains are some that may not be.
var noChains = []chain.Param{
	{},
	{Kind: 0, A: 1, Width: 3},
	{Kind: 4, A: 1, Width: 3},
	{Kind: chain.Morris, A: 0, Width: 3},
	{Kind: chain.Morris, A: 4097, Width: 3},
	{Kind: chain.Morris, A: 255, Width: 10},
	{Kind: chain.Float, A: -1, Width: 3},
	{Kind: chain.Float, A: 9, Width: 3},
	{Kind: chain.Yu, A: 0, Width: 3},
	{Kind: chain.Yu, A: 6, Width: 3},
	{Kind: chain.Morris, A: 1, Width: 0},
	{Kind: chain.Float, A: 1, Width: 11},
	{Kind: chain.Yu, A: 1, Width: -1},
	{Kind: math.MinInt, A: math.MinInt, Width: math.MinInt},
	{Kind: math.MaxInt, A: math.MaxInt, Width: math.MaxInt},
}

func at(k int) chain.State { return chain.State{K: k} }

func full(k int) chain.State { return chain.State{K: k, Full: true} }

var (
	morris2 = chain.Param{Kind: chain.Morris, A: 1, Width: 2} // chances 1, 1/2, 1/4, none
	thirds2 = chain.Param{Kind: chain.Morris, A: 2, Width: 2} // 1, 2/3, 4/9, none
	float2  = chain.Param{Kind: chain.Float, A: 0, Width: 2}  // 1, 1/2, 1/4, none
	float3  = chain.Param{Kind: chain.Float, A: 1, Width: 3}  // 1, 1, 1/2, 1/2, 1/4, 1/4, 1/8, none
	yu4     = chain.Param{Kind: chain.Yu, A: 1, Width: 4}     // 1 six times, 1/2 four times, 1/4 ..
)

// P15.2: the example of the chapter.
func TestChainExample(t *testing.T) {
	answers(t, inc(morris2, at(0)), "", at(1))
}

// P15.2: Incs of which the coins are known. At the last place it is Full, and
// takes none; where it was Full it stays so.
func TestChainInc(t *testing.T) {
	for _, x := range []struct {
		p    chain.Param
		s    chain.State
		text string
		want chain.State
	}{
		{morris2, at(1), "0", at(2)},
		{morris2, at(1), "1", at(1)},
		{morris2, at(2), "00", at(3)},
		{morris2, at(2), "01", at(2)},
		{morris2, at(2), "1", at(2)},
		{morris2, at(3), "", full(3)},
		{morris2, full(3), "", full(3)},
		{morris2, full(1), "0", full(2)},
		{morris2, full(1), "1", full(1)},
		{thirds2, at(1), "100", at(2)},
		{thirds2, at(1), "11", at(1)},
		{thirds2, at(2), "00", at(3)},
		{thirds2, at(2), "011", at(2)},
		{thirds2, at(3), "", full(3)},
		{float2, at(0), "", at(1)},
		{float2, at(1), "1", at(2)},
		{float2, at(1), "0", at(1)},
		{float2, at(2), "11", at(3)},
		{float2, at(2), "10", at(2)},
		{float2, at(3), "", full(3)},
		{float3, at(1), "", at(2)},
		{float3, at(6), "111", at(7)},
		{float3, at(6), "110", at(6)},
		{float3, at(7), "", full(7)},
		{yu4, at(5), "", at(6)},
		{yu4, at(6), "1", at(7)},
		{yu4, at(6), "0", at(6)},
		{yu4, at(10), "11", at(11)},
		{yu4, at(15), "", full(15)},
	} {
		answers(t, inc(x.p, x.s), x.text, x.want)
		answers(t, add(x.p, x.s, 1), x.text, x.want)
	}
}

// P15.2: Adds of which the coins are known: some that reach the last place on
// their way, and then are Full, but not if that was all.
func TestChainAdd(t *testing.T) {
	for _, x := range []struct {
		p    chain.Param
		s    chain.State
		n    int
		text string
		want chain.State
	}{
		{morris2, at(0), 3, "01", at(2)},
		{morris2, at(0), 3, "10", at(2)},
		{morris2, at(0), 3, "11", at(1)},
		{morris2, at(0), 3, "000", at(3)},
		{morris2, at(0), 4, "000", full(3)},
		{morris2, at(0), 5, "000", full(3)},
		{morris2, at(0), 4, "0100", at(3)},
		{morris2, at(0), 5, "0100", full(3)},
		{morris2, at(1), 2, "000", at(3)},
		{morris2, at(2), 2, "00", full(3)},
		{morris2, full(0), 2, "0", full(2)},
		{thirds2, at(0), 3, "10011", at(2)},
		{float2, at(0), 3, "111", at(3)},
		{float2, at(0), 4, "111", full(3)},
		{float2, at(1), 4, "0010", at(2)},
		{float3, at(0), 2, "", at(2)},
		{float3, at(0), 5, "110", at(4)},
		{yu4, at(0), 6, "", at(6)},
		{yu4, at(0), 7, "1", at(7)},
		{yu4, at(0), 8, "01", at(7)},
		{yu4, at(9), 2, "10", at(10)},
	} {
		answers(t, add(x.p, x.s, x.n), x.text, x.want)
	}
}

// P15.2: none, and less than none, leave a State as it is, a Full one, too.
func TestChainAddNone(t *testing.T) {
	for _, p := range chains {
		for _, n := range []int{0, -1, -2, math.MinInt} {
			for _, s := range []chain.State{at(0), at(p.Top()), full(0), full(p.Top()), at(p.Top() / 2)} {
				coinless(t, add(p, s, n), s, api.OK)
			}
		}
	}
}

// P15.2: of a State at the last place all Adds are without a coin, of as many
// as may be, too. One more than that is ErrRange.
func TestChainAddMost(t *testing.T) {
	const most = 1 << 20
	for _, p := range chains {
		for _, s := range []chain.State{at(p.Top()), full(p.Top())} {
			for _, n := range []int{1, 2, most - 1, most} {
				coinless(t, add(p, s, n), full(p.Top()), api.OK)
			}
		}
		for _, s := range []chain.State{at(0), at(p.Top()), full(p.Top())} {
			for _, n := range []int{most + 1, most + 2, math.MaxInt} {
				coinless(t, add(p, s, n), s, api.ErrRange)
			}
		}
	}
	sure := chain.Param{Kind: chain.Yu, A: 5, Width: 10}
	coinless(t, add(sure, at(0), 1023), at(1023), api.OK)
	coinless(t, add(sure, at(0), most), full(1023), api.OK)
}

// P15.2: as many as may be are counted one by one: each turn below the last
// place takes its coins.
func TestChainAddLong(t *testing.T) {
	x := tape.FromBytes(make([]byte, 1<<17), 1<<20)
	p := chain.Param{Kind: chain.Float, A: 0, Width: 10}
	if s, e := p.Add(x, at(1), 1<<20); s != at(1) || e != api.OK || x.Read() != 1<<20 || x.Dead() {
		t.Errorf("%v, %d, %d read", s, e, x.Read())
	}
	x.Back(1)
	if s, e := p.Add(x, full(1), 1<<20); s != full(1) || e != api.ErrTape || !x.Dead() {
		t.Errorf("%v, %d, %d read", s, e, x.Read())
	}
}

// P15.2: Merges of which the coins are known.
func TestChainMerge(t *testing.T) {
	for _, x := range []struct {
		p    chain.Param
		s, o chain.State
		text string
		want chain.State
	}{
		{morris2, at(0), at(0), "", at(0)},
		{morris2, at(2), at(0), "", at(2)},
		{morris2, at(3), at(0), "", at(3)},
		{morris2, at(1), at(1), "0", at(2)},
		{morris2, at(1), at(1), "1", at(1)},
		{morris2, at(2), at(1), "00", at(3)},
		{morris2, at(2), at(1), "01", at(2)},
		{morris2, at(1), at(2), "00", at(3)},
		{morris2, at(1), at(2), "01", at(2)},
		{morris2, at(1), at(2), "1", at(2)},
		{morris2, at(1), at(3), "00", full(3)},
		{morris2, at(1), at(3), "1", at(3)},
		{morris2, at(2), at(3), "00", full(3)},
		{morris2, at(2), at(3), "10", full(3)},
		{morris2, at(2), at(3), "11", at(3)},
		{morris2, at(3), at(1), "", full(3)},
		{morris2, at(3), at(3), "", full(3)},
		{morris2, full(3), at(0), "", full(3)},
		{morris2, full(1), at(1), "1", full(1)},
		{morris2, at(1), full(1), "1", full(1)},
		{morris2, full(1), full(1), "0", full(2)},
		{morris2, at(2), full(0), "", full(2)},
		{morris2, full(0), full(3), "", full(3)},
		{thirds2, at(1), at(2), "10011", at(2)},
		{thirds2, at(1), at(2), "11", at(2)},
		{float2, at(2), at(1), "0", at(2)},
		{float2, at(2), at(1), "10", at(2)},
		{float2, at(2), at(2), "00", at(2)},
		{float2, at(2), at(2), "01", at(3)},
		{float2, at(2), at(2), "11", full(3)},
		{float3, at(4), at(3), "000", at(4)},
		{float3, at(4), at(3), "1100", at(5)},
		{float3, at(4), at(3), "1101", at(6)},
		{float3, at(4), at(3), "111110", at(6)},
		{float3, at(6), at(4), "00100", at(6)},
		{float3, at(6), at(4), "0011", full(7)},
		{yu4, at(6), at(7), "000000", at(7)},
		{yu4, at(10), at(8), "00000010", at(11)},
	} {
		answers(t, merge(x.p, x.s, x.o), x.text, x.want)
	}
}

// P15.3: of one at 0 a Merge takes no coin, and is where the other one was:
// each place r of that is where the counter then stands.
func TestChainMergeInto0(t *testing.T) {
	for _, p := range chains {
		for k := 0; k <= p.Top(); k += 1 + k/20 {
			coinless(t, merge(p, at(0), at(k)), at(k), api.OK)
			coinless(t, merge(p, at(0), full(k)), full(k), api.OK)
			coinless(t, merge(p, full(0), at(k)), full(k), api.OK)
			coinless(t, merge(p, at(k), at(0)), at(k), api.OK)
		}
		coinless(t, merge(p, at(0), at(p.Top())), at(p.Top()), api.OK)
	}
}

// P15.3: whatever the coins are, a Merge is nowhere behind one of both: at each
// place r of o's it stands there, and then a step is sure, or further on.
func TestChainMergeAhead(t *testing.T) {
	chance := rand.New(rand.NewSource(3))
	for _, p := range chains {
		for range 100 {
			s, o := at(chance.Intn(p.Top()+1)), at(chance.Intn(p.Top()+1))
			b := make([]byte, 1<<9)
			switch chance.Intn(3) {
			case 0:
				chance.Read(b)
			case 1:
				for i := range b {
					b[i] = 0xff
				}
			}
			x := tape.FromBytes(b, 8*len(b))
			got, e := p.Merge(x, s, o)
			if e == api.ErrTape {
				continue
			}
			if e != api.OK || got.K < max(s.K, o.K) || got.K > min(s.K+o.K, p.Top()) {
				t.Fatalf("%v: Merge of %v and %v: %v, %d", p, s, o, got, e)
			}
		}
	}
}

// again asks the kind's layer for a step at k, or again for one from r.
func again(p chain.Param, t *tape.Tape, k, r int) (bool, api.Errno) {
	switch p.Kind {
	case chain.Morris:
		return morris.Again(t, p.A, k, r)
	case chain.Float:
		return float.Again(t, p.A, k, r)
	}
	return yu.Again(t, p.A, k, r)
}

// step asks the kind's layer for a step at k.
func step(p chain.Param, t *tape.Tape, k int) (bool, api.Errno) {
	switch p.Kind {
	case chain.Morris:
		return morris.Step(t, p.A, k)
	case chain.Float:
		return float.Step(t, p.A, k)
	}
	return yu.Step(t, p.A, k)
}

// turns goes the chapter's words turn by turn, each of which asks the layer.
func turns(p chain.Param, s chain.State, n int, ask func(k, turn int) (bool, api.Errno)) (chain.State, api.Errno) {
	k, isFull := s.K, s.Full
	for turn := 0; turn < n; turn++ {
		if k == p.Top() {
			isFull = true
			continue
		}
		yes, e := ask(k, turn)
		if e != api.OK {
			return s, e
		}
		if yes {
			k++
		}
	}
	return chain.State{K: k, Full: isFull}, api.OK
}

// addTurns is what Add should be.
func addTurns(p chain.Param, s chain.State, n int) deed[chain.State] {
	return func(t *tape.Tape) (chain.State, api.Errno) {
		return turns(p, s, n, func(k, _ int) (bool, api.Errno) { return step(p, t, k) })
	}
}

// mergeTurns is what Merge should be.
func mergeTurns(p chain.Param, s, o chain.State) deed[chain.State] {
	return func(t *tape.Tape) (chain.State, api.Errno) {
		got, e := turns(p, s, o.K, func(k, r int) (bool, api.Errno) { return again(p, t, k, r) })
		if e == api.OK && o.Full {
			got.Full = true
		}
		return got, e
	}
}

// P15.2: Inc, Add and Merge take and answer what the chapter's words do, of any
// coins and any places; an Add is as many Incs.
func TestChainWords(t *testing.T) {
	chance := rand.New(rand.NewSource(1))
	for _, p := range chains {
		for range 200 {
			s := chain.State{K: chance.Intn(p.Top() + 1), Full: chance.Intn(4) == 0}
			o := chain.State{K: chance.Intn(p.Top() + 1), Full: chance.Intn(4) == 0}
			if chance.Intn(2) == 0 {
				s.K, o.K = min(p.Top(), chance.Intn(12)), min(p.Top(), chance.Intn(12))
			}
			text, n := someCoins(chance, 400), chance.Intn(40)-1
			same(t, inc(p, s), addTurns(p, s, 1), text)
			same(t, add(p, s, n), addTurns(p, s, n), text)
			same(t, add(p, s, n), incs(p, s, n), text)
			same(t, merge(p, s, o), mergeTurns(p, s, o), text)
		}
	}
}

// P15.2, P2: each takes coins from the tape's next one on.
func TestChainInTurn(t *testing.T) {
	inTurn(t, "10"+"1"+"01"+"1100"+"000"+"1", []turn[chain.State]{
		{inc(float2, at(2)), at(2), 2},
		{inc(float2, at(3)), full(3), 2},
		{inc(yu4, at(6)), at(7), 3},
		{add(morris2, at(0), 3), at(2), 5},
		{merge(float3, at(4), at(3)), at(5), 9},
		{merge(float3, at(0), at(7)), at(7), 9},
		{add(float3, at(2), 3), at(2), 12},
	}, []call[chain.State]{
		inc(float2, at(2)),
		inc(float2, full(1)),
		add(yu4, at(4), 9),
		merge(float2, at(2), full(2)),
	}, turn[chain.State]{ask: add(float3, at(0), 2), want: at(2)})
}

// P15.2: of each error the State is as it was, and no coin is taken. What is
// wrong with the Param goes ahead of a place that isn't there, and of an n.
func TestChainErrors(t *testing.T) {
	ks := []int{0, 1, 7, -1, 8, 1023, 1024, math.MinInt, math.MaxInt}
	ns := []int{0, 1, -1, 1 << 20, 1<<20 + 1, math.MinInt, math.MaxInt}
	for _, p := range noChains {
		for _, k := range ks {
			for _, s := range []chain.State{at(k), full(k)} {
				refused(t, inc(p, s), api.ErrParam)
				for _, n := range ns {
					refused(t, add(p, s, n), api.ErrParam)
				}
				for _, o := range ks {
					refused(t, merge(p, s, at(o)), api.ErrParam)
				}
			}
		}
	}
	for _, p := range chains {
		for _, k := range []int{-1, -2, math.MinInt, p.Top() + 1, p.Top() + 2, 1024, math.MaxInt} {
			for _, s := range []chain.State{at(k), full(k)} {
				refused(t, inc(p, s), api.ErrRange)
				for _, n := range ns {
					refused(t, add(p, s, n), api.ErrRange)
				}
				for _, o := range []chain.State{at(0), full(1), at(p.Top()), at(k), at(-1), at(p.Top() + 1)} {
					refused(t, merge(p, s, o), api.ErrRange)
					refused(t, merge(p, o, s), api.ErrRange)
				}
			}
		}
	}
}

// P15.2: coins that are too few: the State is as it was, however far it had
// come.
func TestChainShort(t *testing.T) {
	for _, x := range []struct {
		ask  call[chain.State]
		text string
	}{
		{inc(morris2, at(2)), ""},
		{inc(morris2, full(2)), "0"},
		{add(morris2, at(0), 3), "0"},
		{add(morris2, at(0), 4), "010"},
		{add(float2, full(0), 3), "11"},
		{add(yu4, at(0), 20), "111"},
		{add(yu4, at(0), 1<<20), strings.Repeat("0", 500)},
		{merge(float2, at(2), at(1)), "1"},
		{merge(float2, at(2), at(3)), "0"},
		{merge(float3, full(4), at(3)), "1111"},
		{merge(yu4, at(7), full(9)), "11"},
	} {
		short(t, x.ask, x.text)
	}
}

// P1: each call ends without a panic, whatever it is given, with the errors
// that are told.
func TestChainEveryArgument(t *testing.T) {
	chance := rand.New(rand.NewSource(2))
	wild := []int{-1, math.MinInt, math.MaxInt, 1 << 20, 1<<20 + 1, 1023, 1024, 4096, 4097, 63, 64, 65}
	some := func(most int) int {
		if chance.Intn(12) == 0 {
			return wild[chance.Intn(len(wild))]
		}
		return chance.Intn(most+3) - 1
	}
	for range 20000 {
		p := chain.Param{Kind: some(3), A: some(6), Width: some(10)}
		s := chain.State{K: some(1 << min(10, max(0, p.Width))), Full: chance.Intn(2) == 0}
		o := chain.State{K: some(20), Full: chance.Intn(2) == 0}
		n, text := some(20), someCoins(chance, 60)
		outside := func(k int) bool { return k < 0 || k > p.Top() }
		switch {
		case p.Check() != api.OK:
			refused(t, add(p, s, n), api.ErrParam)
			refused(t, merge(p, s, o), api.ErrParam)
		case outside(s.K):
			refused(t, add(p, s, n), api.ErrRange)
			refused(t, merge(p, s, o), api.ErrRange)
		case n > 1<<20:
			refused(t, add(p, s, n), api.ErrRange)
		case outside(o.K):
			refused(t, merge(p, s, o), api.ErrRange)
		default:
			same(t, add(p, s, n), addTurns(p, s, n), text)
			same(t, merge(p, s, o), mergeTurns(p, s, o), text)
		}
	}
}
