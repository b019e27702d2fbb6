package yu_test

import (
	"math"
	"math/big"
	"slices"
	"testing"

	"tallymark/api"
	"tallymark/rat"
	"tallymark/tape"
	"tallymark/yu"
)

const last = 1023 // the greatest place

// place is a Place, of the library's numbers.
type place struct {
	x, shift     int
	value, reply *big.Int
}

// factor tells 1 and 1 by 2 to the s.
func factor(s int) *big.Rat { return big.NewRat(1<<s+1, 1<<s) }

// up tells a fraction, rounded up, and whether it was a whole number.
func up(x *big.Rat) (*big.Int, bool) {
	n, rest := new(big.Int).QuoRem(x.Num(), x.Denom(), new(big.Int))
	if rest.Sign() > 0 {
		n.Add(n, big.NewInt(1))
	}
	return n, rest.Sign() == 0
}

// times tells a number times a fraction.
func times(n *big.Int, x *big.Rat) *big.Rat { return new(big.Rat).Mul(new(big.Rat).SetInt(n), x) }

// blocks tells T of so many blocks.
func blocks(s, count int) []*big.Int {
	l := []*big.Int{new(big.Int).Exp(big.NewInt(4), big.NewInt(int64(s)), nil)}
	for len(l) < count {
		next, _ := up(times(l[len(l)-1], factor(s)))
		l = append(l, next)
	}
	return l
}

// words tells all places by the chapter's words alone, a step at a time.
func words(s int) []place {
	thresholds := blocks(s, last+2)
	x, value := 0, new(big.Int)
	l := make([]place, last+1)
	for k := range l {
		t := max(0, thresholds[x].BitLen()-(1+2*s))
		l[k] = place{x, t, value, thresholds[x]}
		value = new(big.Int).Add(value, new(big.Int).Lsh(big.NewInt(1), uint(t)))
		if value.Cmp(thresholds[x]) >= 0 {
			x++
		}
	}
	return l
}

// at tells of a place that is there.
func at(t *testing.T, s, k int) place {
	t.Helper()
	p, e := yu.At(s, k)
	value, ok := new(big.Int).SetString(p.Value.Text(), 10)
	reply, also := new(big.Int).SetString(p.Reply.Text(), 10)
	if e != api.OK || !ok || !also {
		t.Fatalf("s %d at %d: %s, %s, %d", s, k, p.Value.Text(), p.Reply.Text(), e)
	}
	return place{p.X, p.Shift, value, reply}
}

// is holds a place against what it should be.
func is(t *testing.T, s, k int, want place) {
	t.Helper()
	p := at(t, s, k)
	if p.x != want.x || p.shift != want.shift || p.value.Cmp(want.value) != 0 || p.reply.Cmp(want.reply) != 0 {
		t.Fatalf("s %d at %d: %v, not %v", s, k, p, want)
	}
	chance, e := yu.Chance(s, k)
	half := new(big.Rat).SetFrac(big.NewInt(1), new(big.Int).Lsh(big.NewInt(1), uint(want.shift)))
	if e != api.OK || chance.Text() != half.RatString() {
		t.Fatalf("s %d: Chance at %d: %s, %d, not %s", s, k, chance.Text(), e, half)
	}
}

// P14.1: the example of the chapter.
func TestExample(t *testing.T) {
	T, shifts := []int64{4, 6, 9, 14, 21}, []int{0, 0, 1, 1, 2}
	for k, p := range []struct {
		x     int
		value int64
	}{{0, 0}, {0, 1}, {0, 2}, {0, 3}, {1, 4}, {1, 5}, {2, 6}, {2, 8}, {3, 10}, {3, 12}, {4, 14}, {4, 18}} {
		is(t, 1, k, place{p.x, shifts[p.x], big.NewInt(p.value), big.NewInt(T[p.x])})
	}
}

// Layer 14: s is 1 to 5.
func TestGood(t *testing.T) {
	for s, want := range map[int]bool{-1: false, 0: false, 1: true, 2: true, 4: true, 5: true, 6: false, math.MinInt: false, math.MaxInt: false} {
		if got := yu.Good(s); got != want {
			t.Errorf("Good(%d) is %v", s, got)
		}
	}
}

// P14.1: of each s and each k what the chapter's words come to.
func TestWords(t *testing.T) {
	for s := 1; s <= 5; s++ {
		for k, want := range words(s) {
			is(t, s, k, want)
		}
	}
}

// P14.1: T is rounded up where 2 to the s doesn't divide it, and just what it
// comes to where it does: each s but 5, which stays in its block 0, has both.
func TestRounded(t *testing.T) {
	for s := 1; s <= 4; s++ {
		seen := map[bool]int{}
		ahead := at(t, s, 0)
		for k := range last + 1 {
			p := at(t, s, k)
			if p.x == ahead.x {
				continue
			}
			want, just := up(times(ahead.reply, factor(s)))
			if p.x != ahead.x+1 || p.reply.Cmp(want) != 0 {
				t.Fatalf("s %d at %d: T of %d is %s, not %s", s, k, p.x, p.reply, want)
			}
			seen[just]++
			ahead = p
		}
		if seen[true] == 0 || seen[false] == 0 {
			t.Errorf("s %d: just so %d times, rounded %d times", s, seen[true], seen[false])
		}
	}
}

// P14.1: places that are known, where k + 1 is still of k's block, and where it
// is of the next one.
func TestKnown(t *testing.T) {
	for _, x := range []struct {
		s, k, x, shift int
		value, reply   int64
	}{
		{2, 15, 0, 0, 15, 16},
		{2, 16, 1, 0, 16, 20},
		{2, 19, 1, 0, 19, 20},
		{2, 20, 2, 0, 20, 25},
		{2, 24, 2, 0, 24, 25},
		{2, 25, 3, 1, 25, 32},
		{2, 28, 3, 1, 31, 32},
		{2, 29, 4, 1, 33, 40},
		{2, 32, 4, 1, 39, 40},
		{2, 33, 5, 1, 41, 50},
		{3, 63, 0, 0, 63, 64},
		{3, 64, 1, 0, 64, 72},
		{3, 72, 2, 0, 72, 81},
		{3, 81, 3, 0, 81, 92},
		{3, 92, 4, 0, 92, 104},
		{3, 104, 5, 0, 104, 117},
		{3, 116, 5, 0, 116, 117},
		{3, 117, 6, 1, 117, 132},
		{3, 118, 6, 1, 119, 132},
		{4, 255, 0, 0, 255, 256},
		{4, 256, 1, 0, 256, 272},
		{4, 272, 2, 0, 272, 289},
		{4, 289, 3, 0, 289, 308},
		{5, 0, 0, 0, 0, 1024},
		{5, 1, 0, 0, 1, 1024},
		{5, last, 0, 0, 1023, 1024},
	} {
		is(t, x.s, x.k, place{x.x, x.shift, big.NewInt(x.value), big.NewInt(x.reply)})
	}
}

// P14.2: of each block what its places stand for is at least T of the block
// ahead, and less than T of its own: so less than that of the one ahead, times
// 1 and 1 by 2 to the s, rounded up, too, and than its own, times that.
func TestWithin(t *testing.T) {
	for s := 1; s <= 5; s++ {
		thresholds := blocks(s, last+2)
		for k := range last + 1 {
			p := at(t, s, k)
			if p.value.Cmp(thresholds[p.x]) >= 0 {
				t.Fatalf("s %d at %d, of the block %d: %s isn't below %s", s, k, p.x, p.value, thresholds[p.x])
			}
			if p.x > 0 && p.value.Cmp(thresholds[p.x-1]) < 0 {
				t.Fatalf("s %d at %d, of the block %d: %s is below %s", s, k, p.x, p.value, thresholds[p.x-1])
			}
			if most := times(p.reply, factor(s)); new(big.Rat).SetInt(p.value).Cmp(most) >= 0 {
				t.Fatalf("s %d at %d: %s isn't below %s", s, k, p.value, most)
			}
		}
	}
}

// P14.1: an s that may not be goes ahead of a place that isn't there; beside the
// error there is nothing.
func TestErrors(t *testing.T) {
	for _, x := range []struct {
		s, k int
		want api.Errno
	}{
		{0, 0, api.ErrParam},
		{0, -1, api.ErrParam},
		{6, 1024, api.ErrParam},
		{math.MinInt, math.MaxInt, api.ErrParam},
		{1, -1, api.ErrRange},
		{1, 1024, api.ErrRange},
		{5, math.MinInt, api.ErrRange},
		{5, math.MaxInt, api.ErrRange},
	} {
		p, e := yu.At(x.s, x.k)
		if e != x.want || p.X != 0 || p.Shift != 0 || !p.Value.Zero() || !p.Reply.Zero() {
			t.Errorf("s %d, k %d: %d, %d, %s, %s, %d", x.s, x.k, p.X, p.Shift, p.Value.Text(), p.Reply.Text(), e)
		}
		if chance, e := yu.Chance(x.s, x.k); e != x.want || rat.Cmp(chance, rat.Rat{}) != 0 {
			t.Errorf("s %d, k %d: %s, %d", x.s, x.k, chance.Text(), e)
		}
	}
}

// P14.3: steps of which the coins are known, as many yes as the t of k's block,
// less that of from's; of an error none is taken. (Package steps asks for the
// rest, of float and of yu.)
func TestStep(t *testing.T) {
	for _, x := range []struct {
		s, k, from int
		coins      []bool
		want       bool
		fault      api.Errno
		read       int
	}{
		{1, 5, 0, []bool{false}, true, api.OK, 0},
		{1, 6, 0, []bool{true, false}, true, api.OK, 1},
		{1, 9, 0, []bool{false, true}, false, api.OK, 1},
		{1, 10, 0, []bool{true, false}, false, api.OK, 2},
		{1, 10, 0, []bool{true}, false, api.ErrTape, 1},
		{1, 10, 5, []bool{true, true}, true, api.OK, 2},
		{1, 10, 6, []bool{true, true}, true, api.OK, 1},
		{1, 10, 9, nil, false, api.ErrTape, 0},
		{1, 11, 10, []bool{false}, true, api.OK, 0},
		{1, 10, 1023, nil, true, api.OK, 0},
		{2, 24, 0, nil, true, api.OK, 0},
		{2, 25, 0, []bool{true}, true, api.OK, 1},
		{3, 117, 116, []bool{false}, false, api.OK, 1},
		{5, 1023, 0, nil, true, api.OK, 0},
		{6, 1024, 0, []bool{true}, false, api.ErrParam, 0},
		{0, 6, -1, []bool{true}, false, api.ErrParam, 0},
		{1, 1024, 0, []bool{true}, false, api.ErrRange, 0},
		{1, 6, -1, []bool{true}, false, api.ErrRange, 0},
		{1, 6, 1024, []bool{true}, false, api.ErrRange, 0},
	} {
		y := tape.New(x.coins...)
		got, e := yu.Again(y, x.s, x.k, x.from)
		if got != x.want || e != x.fault || y.Read() != x.read || y.Dead() != (e == api.ErrTape) {
			t.Errorf("s %d: Again at %d of %d: %v, %d, %d read", x.s, x.k, x.from, got, e, y.Read())
		}
		if x.from != 0 {
			continue
		}
		y = tape.New(x.coins...)
		if got, e := yu.Step(y, x.s, x.k); got != x.want || e != x.fault || y.Read() != x.read {
			t.Errorf("s %d: Step at %d: %v, %d, %d read", x.s, x.k, got, e, y.Read())
		}
	}
}

// Rules 5 and 6: a Place that was answered stays as it is, and is answered
// again, whatever was asked and done meanwhile.
func TestAlike(t *testing.T) {
	for s := 1; s <= 5; s++ {
		p, _ := yu.At(s, 700)
		value, reply := p.Value.Words(), p.Reply.Words()
		for _, words := range [][]uint64{p.Value.Words(), p.Reply.Words()} {
			clear(words)
		}
		yu.At(s, 701)
		yu.Step(tape.New(), s, 700)
		q, e := yu.At(s, 700)
		if e != api.OK || p.X != q.X || p.Shift != q.Shift {
			t.Errorf("s %d: %v, then %v, %d", s, p, q, e)
		}
		for _, l := range [][]uint64{p.Value.Words(), q.Value.Words()} {
			if !slices.Equal(l, value) {
				t.Errorf("s %d: Value %x, not %x", s, l, value)
			}
		}
		for _, l := range [][]uint64{p.Reply.Words(), q.Reply.Words()} {
			if !slices.Equal(l, reply) {
				t.Errorf("s %d: Reply %x, not %x", s, l, reply)
			}
		}
	}
}
