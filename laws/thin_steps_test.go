package laws

import (
	"math"
	"math/rand"
	"strings"
	"testing"

	"tallymark/api"
	"tallymark/tape"
	"tallymark/thin"
)

func kept(y, times int) thin.State { return thin.State{Y: y, T: times} }

func keptFull(y, times int) thin.State { return thin.State{Y: y, T: times, Full: true} }

var (
	never2 = thin.Param{Most: 2, Times: 0}
	twice1 = thin.Param{Most: 1, Times: 2}
	twice3 = thin.Param{Most: 3, Times: 2}
	often3 = thin.Param{Most: 3, Times: 20}
)

// P16.2: the example of the chapter.
func TestThinExample(t *testing.T) {
	for text, y := range map[string]int{"0000": 0, "0001": 1, "1000": 1, "0110": 2, "1011": 3, "1110": 3} {
		answers(t, inc(twice3, kept(3, 0)), text, kept(y, 1))
	}
}

// P16.2: Incs of which the coins are known: of a counter that was never thinned
// they take none to go up; above Most it is brought down, by a coin for each,
// till it isn't above it, or was thinned so often as it may be.
func TestThinInc(t *testing.T) {
	for _, x := range []struct {
		p    thin.Param
		s    thin.State
		text string
		want thin.State
	}{
		{twice3, kept(0, 0), "", kept(1, 0)},
		{twice3, kept(2, 0), "", kept(3, 0)},
		{twice3, kept(3, 0), "1111" + "0110", kept(2, 2)},
		{twice3, kept(3, 0), "1111" + "0000", kept(0, 2)},
		{twice3, kept(3, 0), "1111" + "1111", keptFull(3, 2)},
		{twice3, kept(0, 1), "1", kept(1, 1)},
		{twice3, kept(0, 1), "0", kept(0, 1)},
		{twice3, kept(2, 1), "1", kept(3, 1)},
		{twice3, kept(3, 1), "0", kept(3, 1)},
		{twice3, kept(3, 1), "1" + "0101", kept(2, 2)},
		{twice3, kept(3, 1), "1" + "1111", keptFull(3, 2)},
		{twice3, kept(2, 2), "11", kept(3, 2)},
		{twice3, kept(2, 2), "10", kept(2, 2)},
		{twice3, kept(3, 2), "11", keptFull(3, 2)},
		{twice3, kept(3, 2), "10", kept(3, 2)},
		{twice3, kept(3, 2), "0", kept(3, 2)},
		{twice3, keptFull(3, 2), "11", keptFull(3, 2)},
		{twice3, keptFull(3, 2), "0", keptFull(3, 2)},
		{twice3, keptFull(1, 2), "11", keptFull(2, 2)},
		{twice3, keptFull(1, 2), "10", keptFull(1, 2)},
		{never2, kept(1, 0), "", kept(2, 0)},
		{never2, kept(2, 0), "", keptFull(2, 0)},
		{never2, keptFull(2, 0), "", keptFull(2, 0)},
		{never2, keptFull(0, 0), "", keptFull(1, 0)},
		{twice1, kept(1, 0), "11" + "11", keptFull(1, 2)},
		{twice1, kept(1, 0), "11" + "10", kept(1, 2)},
		{twice1, kept(1, 0), "10", kept(1, 1)},
		{often3, kept(3, 0), strings.Repeat("1111", 19) + "0111", kept(3, 20)},
		{often3, kept(3, 0), strings.Repeat("1111", 20), keptFull(3, 20)},
		{often3, kept(3, 18), strings.Repeat("1", 18) + "1111" + "0100", kept(1, 20)},
		{often3, kept(0, 20), strings.Repeat("1", 20), kept(1, 20)},
		{often3, kept(0, 20), strings.Repeat("1", 19) + "0", kept(0, 20)},
	} {
		answers(t, inc(x.p, x.s), x.text, x.want)
		answers(t, add(x.p, x.s, 1), x.text, x.want)
	}
}

// P16.2: Adds of which the coins are known.
func TestThinAdd(t *testing.T) {
	for _, x := range []struct {
		p    thin.Param
		s    thin.State
		n    int
		text string
		want thin.State
	}{
		{twice3, kept(0, 0), 3, "", kept(3, 0)},
		{twice3, kept(0, 0), 4, "0101", kept(2, 1)},
		{twice3, kept(0, 0), 5, "1011" + "0", kept(3, 1)},
		{twice3, kept(0, 0), 5, "1011" + "1" + "1111", keptFull(3, 2)},
		{twice3, kept(0, 0), 6, "0000" + "1" + "1", kept(2, 1)},
		{twice3, kept(0, 0), 6, "1111" + "0001" + "11" + "0", kept(2, 2)},
		{twice3, kept(2, 2), 4, "11" + "11" + "0" + "10", keptFull(3, 2)},
		{twice3, keptFull(0, 2), 2, "0" + "11", keptFull(1, 2)},
		{never2, kept(0, 0), 2, "", kept(2, 0)},
		{never2, kept(0, 0), 3, "", keptFull(2, 0)},
		{never2, kept(0, 0), 1 << 20, "", keptFull(2, 0)},
		{twice1, kept(0, 0), 3, "11" + "00" + "11", kept(1, 2)},
	} {
		answers(t, add(x.p, x.s, x.n), x.text, x.want)
	}
}

// P16.2: none, and less than none, leave a State as it is. More than may be are
// ErrRange, of any State.
func TestThinAddEdges(t *testing.T) {
	for _, p := range greatThins {
		for _, s := range []thin.State{{}, kept(p.Most, 0), kept(p.Most, p.Times), keptFull(p.Most, p.Times), keptFull(0, p.Times)} {
			for _, n := range []int{0, -1, -2, math.MinInt} {
				coinless(t, add(p, s, n), s, api.OK)
			}
			for _, n := range []int{1<<20 + 1, 1<<20 + 2, math.MaxInt} {
				refused(t, add(p, s, n), api.ErrRange)
			}
		}
	}
}

// P16.2: as many as may be are counted one by one, each with its coins.
func TestThinAddLong(t *testing.T) {
	x := tape.FromBytes(make([]byte, 1<<17), 1<<20)
	if s, e := twice3.Add(x, kept(1, 1), 1<<20); s != kept(1, 1) || e != api.OK || x.Read() != 1<<20 || x.Dead() {
		t.Errorf("%v, %d, %d read", s, e, x.Read())
	}
	x.Back(1)
	if s, e := twice3.Add(x, keptFull(1, 2), 1<<20); s != keptFull(1, 2) || e != api.ErrTape || !x.Dead() {
		t.Errorf("%v, %d, %d read", s, e, x.Read())
	}
}

// P16.2: Merges of which the coins are known: of two that were thinned equally
// often, of one that was less often, by a coin for each that it has then, and
// with what is too great brought down.
func TestThinMerge(t *testing.T) {
	for _, x := range []struct {
		p    thin.Param
		s, o thin.State
		text string
		want thin.State
	}{
		{twice3, kept(0, 0), kept(0, 0), "", kept(0, 0)},
		{twice3, kept(1, 0), kept(2, 0), "", kept(3, 0)},
		{twice3, kept(3, 1), kept(0, 1), "", kept(3, 1)},
		{twice3, kept(2, 0), kept(2, 0), "0110", kept(2, 1)},
		{twice3, kept(3, 0), kept(3, 0), "111100" + "1000", kept(1, 2)},
		{twice3, kept(3, 0), kept(3, 0), "111111" + "101010", kept(3, 2)},
		{twice3, kept(3, 0), kept(3, 0), "111111" + "101011", keptFull(3, 2)},
		{twice3, kept(3, 1), kept(2, 1), "01011", kept(3, 2)},
		{twice3, kept(3, 2), kept(1, 2), "", keptFull(3, 2)},
		{twice3, kept(2, 2), kept(1, 2), "", kept(3, 2)},
		{twice3, kept(3, 0), kept(1, 1), "101", kept(3, 1)},
		{twice3, kept(3, 0), kept(1, 2), "111" + "110", kept(3, 2)},
		{twice3, kept(3, 0), kept(1, 2), "100" + "1", kept(2, 2)},
		{twice3, kept(3, 0), kept(1, 2), "000", kept(1, 2)},
		{twice3, kept(2, 0), kept(3, 2), "11" + "11", keptFull(3, 2)},
		{twice3, kept(2, 0), kept(3, 1), "11" + "00011", kept(2, 2)},
		{twice3, kept(0, 0), kept(2, 2), "", kept(2, 2)},
		{twice3, kept(1, 1), kept(3, 0), "010", kept(2, 1)},
		{twice3, kept(1, 2), kept(3, 0), "011" + "10", kept(2, 2)},
		{twice3, kept(3, 1), kept(3, 0), "111" + "110011", keptFull(3, 2)},
		{twice3, kept(3, 1), kept(3, 0), "111" + "110010", kept(3, 2)},
		{twice3, kept(3, 2), kept(0, 0), "", kept(3, 2)},
		{twice3, keptFull(1, 2), kept(1, 2), "", keptFull(2, 2)},
		{twice3, kept(1, 2), keptFull(1, 2), "", keptFull(2, 2)},
		{twice3, keptFull(1, 2), keptFull(1, 2), "", keptFull(2, 2)},
		{twice3, keptFull(3, 2), kept(3, 2), "", keptFull(3, 2)},
		{twice3, kept(3, 0), keptFull(0, 2), "110" + "10", keptFull(1, 2)},
		{twice3, keptFull(0, 2), kept(3, 0), "110" + "00", keptFull(0, 2)},
		{never2, kept(1, 0), kept(1, 0), "", kept(2, 0)},
		{never2, kept(1, 0), kept(2, 0), "", keptFull(2, 0)},
		{never2, kept(1, 0), keptFull(0, 0), "", keptFull(1, 0)},
		{twice1, kept(1, 0), kept(1, 0), "11" + "01", kept(1, 2)},
		{twice1, kept(1, 0), kept(1, 1), "1" + "10", kept(1, 2)},
	} {
		answers(t, merge(x.p, x.s, x.o), x.text, x.want)
	}
}

// words goes the chapter's words: it stops by a panic with tooFew where the
// tape has no coin left.
type words struct {
	p thin.Param
	t *tape.Tape
}

type tooFew struct{}

func (w words) coin() bool {
	coin, e := w.t.Flip()
	if e != api.OK {
		panic(tooFew{})
	}
	return coin
}

// half is yes where so many coins are.
func (w words) half(k int) bool {
	for ; k > 0; k-- {
		if !w.coin() {
			return false
		}
	}
	return true
}

func (w words) thinned(s thin.State) thin.State {
	left := 0
	for i := 0; i < s.Y; i++ {
		if w.coin() {
			left++
		}
	}
	return thin.State{Y: left, T: s.T + 1, Full: s.Full}
}

func (w words) broughtDown(s thin.State) thin.State {
	for s.Y > w.p.Most {
		if s.T < w.p.Times {
			s = w.thinned(s)
		} else {
			s.Y, s.Full = w.p.Most, true
		}
	}
	return s
}

func (w words) add(s thin.State, n int) thin.State {
	for ; n > 0; n-- {
		if w.half(s.T) {
			s.Y++
			s = w.broughtDown(s)
		}
	}
	return s
}

func (w words) merge(s, o thin.State) thin.State {
	for s.T < o.T {
		s = w.thinned(s)
	}
	for o.T < s.T {
		o = w.thinned(o)
	}
	return w.broughtDown(thin.State{Y: s.Y + o.Y, T: s.T, Full: s.Full || o.Full})
}

// byWords is what a call should be: where coins are too few the State is as it
// was.
func byWords(p thin.Param, was thin.State, do func(w words) thin.State) deed[thin.State] {
	return func(t *tape.Tape) (s thin.State, e api.Errno) {
		defer func() {
			if x := recover(); x == (tooFew{}) {
				s, e = was, api.ErrTape
			} else if x != nil {
				panic(x)
			}
		}()
		return do(words{p, t}), api.OK
	}
}

func addWords(p thin.Param, s thin.State, n int) deed[thin.State] {
	return byWords(p, s, func(w words) thin.State { return w.add(s, n) })
}

func mergeWords(p thin.Param, s, o thin.State) deed[thin.State] {
	return byWords(p, s, func(w words) thin.State { return w.merge(s, o) })
}

// greatThins are small Params and great ones, those at the ends among them.
var greatThins = append([]thin.Param{
	{Most: 1, Times: 20},
	{Most: 15, Times: 4},
	{Most: 100, Times: 10},
	{Most: 1023, Times: 0},
	{Most: 1023, Times: 20},
}, thins...)

// noThins are some that may not be.
var noThins = []thin.Param{
	{},
	{Most: 0, Times: 3},
	{Most: -1, Times: 3},
	{Most: 1024, Times: 3},
	{Most: 3, Times: -1},
	{Most: 3, Times: 21},
	{Most: math.MinInt, Times: math.MinInt},
	{Most: math.MaxInt, Times: math.MaxInt},
}

// some tells a State that may be.
func some(p thin.Param, chance *rand.Rand) thin.State {
	s := thin.State{Y: chance.Intn(p.Most + 1), T: chance.Intn(p.Times + 1)}
	switch chance.Intn(4) {
	case 0:
		s.T, s.Full = p.Times, true
	case 1:
		s.Y = p.Most
	case 2:
		s.T = min(s.T, chance.Intn(3))
	}
	return s
}

// P16.2: Inc, Add and Merge take and answer what the chapter's words do, of any
// coins, and what they answer is Well; an Add is as many Incs.
func TestThinWords(t *testing.T) {
	chance := rand.New(rand.NewSource(1))
	for _, p := range greatThins {
		for range 400 {
			s, o, n := some(p, chance), some(p, chance), chance.Intn(12)
			text := someCoins(chance, 3*p.Most+40)
			same(t, inc(p, s), addWords(p, s, 1), text)
			same(t, add(p, s, n), addWords(p, s, n), text)
			same(t, add(p, s, n), incs(p, s, n), text)
			same(t, merge(p, s, o), mergeWords(p, s, o), text)
			for _, ask := range []call[thin.State]{inc(p, s), add(p, s, n), merge(p, s, o)} {
				if got, e := ask.do(tape.New(coinsOf(text)...)); !p.Well(got) {
					t.Fatalf("%s, of %s: %v, %d, isn't Well", ask.what, text, got, e)
				}
			}
		}
	}
}

// P16.2, P2: each takes coins from the tape's next one on.
func TestThinInTurn(t *testing.T) {
	inTurn(t, "0110"+"1"+"101"+"0"+"1", []turn[thin.State]{
		{inc(twice3, kept(3, 0)), kept(2, 1), 4},
		{add(twice3, kept(0, 0), 3), kept(3, 0), 4},
		{inc(twice3, kept(2, 1)), kept(3, 1), 5},
		{merge(twice3, kept(3, 0), kept(1, 1)), kept(3, 1), 8},
		{merge(never2, kept(2, 0), kept(1, 0)), keptFull(2, 0), 8},
		{inc(twice3, keptFull(1, 2)), keptFull(1, 2), 9},
	}, []call[thin.State]{
		inc(twice3, kept(3, 0)),
		inc(twice3, keptFull(1, 2)),
		add(twice3, kept(0, 0), 9),
		merge(twice3, kept(2, 0), keptFull(2, 2)),
	}, turn[thin.State]{ask: inc(twice3, kept(2, 0)), want: kept(3, 0)})
}

// unwell tells states that may not be: by their Y, by their T, and Full where
// they could still be thinned.
func unwell(p thin.Param) []thin.State {
	l := []thin.State{kept(0, p.Times+1), keptFull(0, p.Times+1), kept(p.Most+1, p.Times), kept(p.Most+1, -1)}
	for _, y := range []int{-1, p.Most + 1, math.MinInt, math.MaxInt} {
		l = append(l, kept(y, 0), keptFull(y, p.Times))
	}
	for _, times := range []int{-1, p.Times + 1, math.MinInt, math.MaxInt} {
		l = append(l, kept(0, times), keptFull(1, times))
	}
	if p.Times > 0 {
		l = append(l, keptFull(0, 0), keptFull(p.Most, p.Times-1))
	}
	return l
}

// P16.2: of each error the State is as it was, and no coin is taken. What is
// wrong with the Param goes ahead of a State that isn't Well, and of an n.
func TestThinErrors(t *testing.T) {
	ns := []int{0, 1, -1, 1 << 20, 1<<20 + 1, math.MinInt, math.MaxInt}
	others := []thin.State{{}, kept(1, 0), kept(-1, 0), keptFull(1, 0), kept(4, 3), kept(1024, 21), keptFull(3, 2)}
	for _, p := range noThins {
		for _, s := range append(others, unwell(p)...) {
			refused(t, inc(p, s), api.ErrParam)
			for _, n := range ns {
				refused(t, add(p, s, n), api.ErrParam)
			}
			for _, o := range others {
				refused(t, merge(p, s, o), api.ErrParam)
			}
		}
	}
	for _, p := range greatThins {
		for _, s := range unwell(p) {
			refused(t, inc(p, s), api.ErrRange)
			for _, n := range ns {
				refused(t, add(p, s, n), api.ErrRange)
			}
			for _, o := range []thin.State{{}, kept(p.Most, p.Times), keptFull(p.Most, p.Times), s, kept(-1, 0)} {
				refused(t, merge(p, s, o), api.ErrRange)
				refused(t, merge(p, o, s), api.ErrRange)
			}
		}
	}
}

// P16.2: coins that are too few: the State is as it was, however far it had
// come.
func TestThinShort(t *testing.T) {
	for _, x := range []struct {
		ask  call[thin.State]
		text string
	}{
		{inc(twice3, kept(3, 0)), "101"},
		{inc(twice3, kept(3, 0)), "1111" + "111"},
		{inc(twice3, keptFull(1, 2)), "1"},
		{add(twice3, kept(0, 0), 5), "0000"},
		{add(twice3, kept(1, 1), 1<<20), strings.Repeat("0", 500)},
		{merge(twice3, kept(3, 0), kept(1, 1)), "10"},
		{merge(twice3, kept(3, 0), kept(1, 2)), "111" + "11"},
		{merge(twice3, kept(1, 1), kept(3, 0)), "11"},
		{merge(twice3, keptFull(1, 2), kept(3, 0)), "111" + "1"},
		{merge(twice3, kept(2, 0), kept(2, 0)), "111"},
		{merge(twice3, kept(2, 1), kept(3, 1)), "1111"},
	} {
		short(t, x.ask, x.text)
	}
}

// P1: each call ends without a panic, whatever it is given, with the errors
// that are told.
func TestThinEveryArgument(t *testing.T) {
	chance := rand.New(rand.NewSource(2))
	wild := []int{-1, math.MinInt, math.MaxInt, 1 << 20, 1<<20 + 1, 1023, 1024, 20, 21, 64}
	number := func(most int) int {
		if chance.Intn(12) == 0 {
			return wild[chance.Intn(len(wild))]
		}
		return chance.Intn(most+3) - 1
	}
	for range 30000 {
		p := thin.Param{Most: number(8), Times: number(4)}
		s := thin.State{Y: number(8), T: number(4), Full: chance.Intn(4) == 0}
		o := thin.State{Y: number(8), T: number(4), Full: chance.Intn(4) == 0}
		n, text := number(10), someCoins(chance, 40)
		switch {
		case p.Check() != api.OK:
			refused(t, add(p, s, n), api.ErrParam)
			refused(t, merge(p, s, o), api.ErrParam)
		case !p.Well(s):
			refused(t, add(p, s, n), api.ErrRange)
			refused(t, merge(p, s, o), api.ErrRange)
		case n > 1<<20:
			refused(t, add(p, s, n), api.ErrRange)
		case !p.Well(o):
			refused(t, merge(p, s, o), api.ErrRange)
		default:
			same(t, add(p, s, n), addWords(p, s, n), text)
			same(t, merge(p, s, o), mergeWords(p, s, o), text)
		}
	}
}
