package tape_test

import (
	"bytes"
	"math"
	"math/rand"
	"slices"
	"testing"

	"tallymark/api"
	"tallymark/tape"
)

// is asks where a tape is, by all calls that tell it.
func is(t *testing.T, what string, x *tape.Tape, read, left int, dead bool) {
	t.Helper()
	if x.Read() != read || x.Mark() != read || x.Left() != left || x.Dead() != dead {
		t.Fatalf("%s: %d read, mark %d, %d left, dead %v; not %d, %d, %v",
			what, x.Read(), x.Mark(), x.Left(), x.Dead(), read, left, dead)
	}
}

// comes asks for a coin that is there.
func comes(t *testing.T, what string, x *tape.Tape, want bool) {
	t.Helper()
	if coin, e := x.Flip(); coin != want || e != api.OK {
		t.Fatalf("%s: the coin behind %d: %v, %d, not %v", what, x.Read(), coin, e, want)
	}
}

// ends asks for a coin where there is none: read are the tape's coins.
func ends(t *testing.T, what string, x *tape.Tape, read int) {
	t.Helper()
	if coin, e := x.Flip(); coin || e != api.ErrTape {
		t.Fatalf("%s: behind the end: %v, %d", what, coin, e)
	}
	is(t, what, x, read, 0, true)
}

// holds takes all coins of a tape that isn't dead, and one more.
func holds(t *testing.T, what string, x *tape.Tape, coins ...bool) {
	t.Helper()
	from := x.Read()
	for i, coin := range coins {
		is(t, what, x, from+i, len(coins)-i, false)
		comes(t, what, x, coin)
	}
	is(t, what, x, from+len(coins), 0, false)
	ends(t, what, x, from+len(coins))
}

// drawn are so many coins.
func drawn(chance *rand.Rand, count int) []bool {
	coins := make([]bool, count)
	for i := range coins {
		coins[i] = chance.Intn(2) == 1
	}
	return coins
}

// coinsOf tells the coins that bytes are, the highest bit of each first.
func coinsOf(b ...byte) []bool {
	var coins []bool
	for _, x := range b {
		for bit := byte(128); bit > 0; bit /= 2 {
			coins = append(coins, x/bit%2 == 1)
		}
	}
	return coins
}

// P9.1, P9.2: the example of the chapter.
func TestExample(t *testing.T) {
	for _, coin := range []bool{true, false} {
		x := tape.New(coin)
		is(t, "at first", x, 0, 1, false)
		comes(t, "the first", x, coin)
		is(t, "at its end", x, 1, 0, false)
		for range 5 {
			ends(t, "of one coin", x, 1)
		}
	}
}

// P9.1, P9.2: tapes of no coins aren't dead till one is asked for.
func TestNone(t *testing.T) {
	for what, x := range map[string]*tape.Tape{
		"New":                   tape.New(),
		"New of nil":            tape.New([]bool(nil)...),
		"nil, 0":                tape.FromBytes(nil, 0),
		"nil, 9":                tape.FromBytes(nil, 9),
		"nil, -1":               tape.FromBytes(nil, -1),
		"no bytes, most":        tape.FromBytes([]byte{}, math.MaxInt),
		"bytes, 0":              tape.FromBytes([]byte{0xff, 0xff}, 0),
		"bytes, -1":             tape.FromBytes([]byte{0xff, 0xff}, -1),
		"bytes, -8":             tape.FromBytes([]byte{0xff, 0xff}, -8),
		"bytes, the least":      tape.FromBytes([]byte{0xff, 0xff}, math.MinInt),
		"a clone of one":        tape.New().Clone(),
		"a clone of one, bytes": tape.FromBytes(nil, 1).Clone(),
	} {
		is(t, what, x, 0, 0, false)
		if e := x.Back(0); e != api.OK {
			t.Errorf("%s: back to 0: %d", what, e)
		}
		is(t, what, x, 0, 0, false)
		ends(t, what, x, 0)
		ends(t, what, x, 0)
		if e := x.Back(1); e != api.ErrRange {
			t.Errorf("%s: back to 1: %d", what, e)
		}
		is(t, what, x, 0, 0, true)
		if e := x.Back(0); e != api.OK {
			t.Errorf("%s: back to 0, of a dead one: %d", what, e)
		}
		is(t, what, x, 0, 0, false)
		ends(t, what, x, 0)
	}
}

// P9.1: coins come in their order, each once, at all lengths about some bytes.
func TestNew(t *testing.T) {
	chance := rand.New(rand.NewSource(1))
	for count := range 70 {
		coins := drawn(chance, count)
		holds(t, "drawn", tape.New(coins...), coins...)
	}
	holds(t, "by hand", tape.New(true, false, false, true, true), true, false, false, true, true)
}

// P9.1: the highest bit of each byte is first; of as many bits as n says, but
// no more than there are.
func TestFromBytes(t *testing.T) {
	holds(t, "9 of 16", tape.FromBytes([]byte{0b10110001, 0b10000000}, 9),
		true, false, true, true, false, false, false, true, true)
	chance := rand.New(rand.NewSource(2))
	for length := range 5 {
		b := make([]byte, length)
		chance.Read(b)
		coins := coinsOf(b...)
		for n := -10; n < 8*length+20; n++ {
			holds(t, "drawn", tape.FromBytes(b, n), coins[:max(0, min(n, len(coins)))]...)
		}
		holds(t, "as many as may be", tape.FromBytes(b, math.MaxInt), coins...)
		holds(t, "the least", tape.FromBytes(b, math.MinInt))
	}
}

// P9.1: both ways to a tape come to the same.
func TestAlike(t *testing.T) {
	b := []byte{0x00, 0xff, 0x5a, 0xc3, 0x01}
	for n := range 41 {
		x, y := tape.New(coinsOf(b...)[:n]...), tape.FromBytes(b, n)
		for range n + 3 {
			is(t, "from bytes", y, x.Read(), x.Left(), x.Dead())
			coin, e := x.Flip()
			if got, e2 := y.Flip(); got != coin || e2 != e {
				t.Fatalf("%d coins, the one behind %d: %v, %d, not %v, %d", n, x.Read(), got, e2, coin, e)
			}
		}
	}
}

// P9.1: of more than MaxTape coins the first ones.
func TestMost(t *testing.T) {
	chance := rand.New(rand.NewSource(3))
	b := make([]byte, api.MaxTape/8+3)
	chance.Read(b)
	coins := coinsOf(b...)
	for _, n := range []int{api.MaxTape - 1, api.MaxTape, api.MaxTape + 1, api.MaxTape + 8, api.MaxTape + 24} {
		want := coins[:min(n, api.MaxTape)]
		holdsMany(t, "New", tape.New(coins[:n]...), want)
		holdsMany(t, "FromBytes", tape.FromBytes(b, n), want)
	}
	holdsMany(t, "FromBytes of as many as may be", tape.FromBytes(b, math.MaxInt), coins[:api.MaxTape])
}

// holdsMany asks for all coins of a long tape, and for where it is at both
// ends alone.
func holdsMany(t *testing.T, what string, x *tape.Tape, coins []bool) {
	t.Helper()
	is(t, what, x, 0, len(coins), false)
	for i, want := range coins {
		if coin, e := x.Flip(); coin != want || e != api.OK {
			t.Fatalf("%s: the coin behind %d: %v, %d", what, i, coin, e)
		}
	}
	is(t, what, x, len(coins), 0, false)
	ends(t, what, x, len(coins))
	if e := x.Back(len(coins) - 1); e != api.OK {
		t.Fatalf("%s: back by one: %d", what, e)
	}
	holds(t, what, x, coins[len(coins)-1])
}

// P9.2: nothing but Back brings a dead tape to life.
func TestDead(t *testing.T) {
	coins := []bool{true, true, false}
	x := tape.New(coins...)
	for _, coin := range coins {
		comes(t, "before", x, coin)
	}
	is(t, "at its end", x, 3, 0, false)
	for range 4 {
		ends(t, "dead", x, 3)
		x.Clone().Back(0)
		is(t, "its clone went back", x, 3, 0, true)
		for _, mark := range []int{4, 5, 8, math.MaxInt, -1, -3, math.MinInt} {
			if e := x.Back(mark); e != api.ErrRange {
				t.Errorf("Back(%d): %d", mark, e)
			}
			is(t, "a mark that isn't there", x, 3, 0, true)
		}
	}
}

// P9.2: behind Back a dead tape lives, and the same coins come again; at its
// end, too, where none is left.
func TestBackOfDead(t *testing.T) {
	coins := coinsOf(0xa7, 0x13)
	x := tape.New(coins...)
	for mark := len(coins); mark >= 0; mark-- {
		for x.Left() > 0 {
			x.Flip()
		}
		ends(t, "dead", x, len(coins))
		if e := x.Back(mark); e != api.OK {
			t.Errorf("Back(%d): %d", mark, e)
		}
		is(t, "back", x, mark, len(coins)-mark, false)
		holds(t, "again", x, coins[mark:]...)
	}
}

// P9.1: back to each mark from each place, as long as it was read: what was
// read and given back is no mark either.
func TestBack(t *testing.T) {
	coins := coinsOf(0x3c, 0xd1)
	for at := range len(coins) + 1 {
		for mark := -3; mark < len(coins)+4; mark++ {
			x := tape.FromBytes([]byte{0x3c, 0xd1}, 16)
			for range at {
				x.Flip()
			}
			e := x.Back(mark)
			if (mark >= 0 && mark <= at) != (e == api.OK) || e != api.OK && e != api.ErrRange {
				t.Fatalf("at %d: Back(%d): %d", at, mark, e)
			}
			place := at
			if e == api.OK {
				place = mark
				if e := x.Back(at); (e == api.OK) != (at == mark) {
					t.Fatalf("at %d: Back(%d), then to %d: %d", at, mark, at, e)
				}
			}
			holds(t, "back", x, coins[place:]...)
		}
	}
}

// P9.1: a mark that was kept is found again.
func TestMark(t *testing.T) {
	chance := rand.New(rand.NewSource(4))
	coins := drawn(chance, 100)
	x := tape.New(coins...)
	for range 30 {
		x.Flip()
	}
	mark := x.Mark()
	for range 3 {
		for _, coin := range coins[30:60] {
			comes(t, "behind the mark", x, coin)
		}
		if e := x.Back(mark); e != api.OK {
			t.Fatalf("Back(%d): %d", mark, e)
		}
	}
	holds(t, "behind the mark", x, coins[30:]...)
}

// P9.1: a clone goes its own way from where the tape is, and so does the tape,
// whichever goes first.
func TestClone(t *testing.T) {
	coins := coinsOf(0x96, 0x2f, 0x80)
	for at := range len(coins) + 1 {
		x := tape.New(coins...)
		for range at {
			x.Flip()
		}
		c := x.Clone()
		is(t, "a clone", c, at, len(coins)-at, false)
		holds(t, "a clone", c, coins[at:]...)
		is(t, "the first one", x, at, len(coins)-at, false)

		c = x.Clone()
		holds(t, "the first one", x, coins[at:]...)
		is(t, "a clone of a living one", c, at, len(coins)-at, false)
		if e := c.Back(0); e != api.OK {
			t.Fatalf("back to 0: %d", e)
		}
		is(t, "the first one", x, len(coins), 0, true)
		holds(t, "a clone that went back", c, coins...)
	}
}

// P9.2: a clone of a dead tape is dead; each is brought back alone.
func TestCloneOfDead(t *testing.T) {
	x := tape.New(true, false)
	for range 3 {
		x.Flip()
	}
	c := x.Clone()
	is(t, "a clone", c, 2, 0, true)
	ends(t, "a clone", c, 2)
	if e := c.Back(1); e != api.OK {
		t.Fatalf("Back(1): %d", e)
	}
	is(t, "the first one", x, 2, 0, true)
	c2 := c.Clone()
	holds(t, "a clone that went back", c, false)
	if e := x.Back(0); e != api.OK {
		t.Fatalf("Back(0): %d", e)
	}
	is(t, "a clone", c, 2, 0, true)
	holds(t, "the first one", x, true, false)
	holds(t, "a clone of a clone", c2, false)
}

// Rule 5: a tape keeps nothing of what it was made of, and changes nothing of
// it, the spare room neither.
func TestGivenIn(t *testing.T) {
	coins := coinsOf(0x5e, 0xb0, 0x77)
	room := slices.Clone(coins)
	x := tape.New(room[:19]...)
	if !slices.Equal(room, coins) {
		t.Errorf("coins: %v", room)
	}
	for i := range room {
		room[i] = !room[i]
	}
	holds(t, "New", x, coins[:19]...)

	bits := []byte{0x5e, 0xb0, 0x77}
	given := slices.Clone(bits)
	for _, n := range []int{0, 1, 8, 15, 16, 99} {
		y := tape.FromBytes(given[:2], n)
		if !bytes.Equal(given, bits) {
			t.Errorf("bytes: %x", given)
		}
		clear(given)
		holds(t, "FromBytes", y, coins[:min(n, 16)]...)
		if !bytes.Equal(given, make([]byte, 3)) {
			t.Errorf("bytes: %x", given)
		}
		copy(given, bits)
	}
}

// P9.3: a longer tape tells the same, as far as the shorter one isn't dead,
// whatever comes behind.
func TestLonger(t *testing.T) {
	chance := rand.New(rand.NewSource(5))
	for range 300 {
		coins := drawn(chance, chance.Intn(40))
		x := tape.New(coins...)
		y := tape.New(append(slices.Clone(coins), drawn(chance, 1+chance.Intn(20))...)...)
		for !x.Dead() {
			if x.Read() != y.Read() || x.Mark() != y.Mark() || y.Dead() || y.Left() <= x.Left() {
				t.Fatalf("%d read, %d left; the longer one %d, %d", x.Read(), x.Left(), y.Read(), y.Left())
			}
			if chance.Intn(4) == 0 {
				mark := chance.Intn(x.Read() + 1)
				if x.Back(mark) != api.OK || y.Back(mark) != api.OK {
					t.Fatalf("Back(%d) at %d", mark, x.Read())
				}
			}
			coin, e := x.Flip()
			if e != api.OK {
				break
			}
			comes(t, "the longer one", y, coin)
		}
	}
}

// model is a tape as the chapter's words have it.
type model struct {
	coins []bool
	read  int
	dead  bool
}

// step does a call that is drawn with a tape and its model; it tells a clone,
// if it was that.
func (m *model) step(t *testing.T, chance *rand.Rand, x *tape.Tape) *tape.Tape {
	switch chance.Intn(8) {
	case 0:
		return x.Clone()
	case 1:
		mark := chance.Intn(len(m.coins)+8) - 4
		if chance.Intn(20) == 0 {
			mark = int(chance.Uint64())
		}
		want := api.ErrRange
		if mark >= 0 && mark <= m.read {
			want, m.read, m.dead = api.OK, mark, false
		}
		if e := x.Back(mark); e != want {
			t.Fatalf("Back(%d): %d, not %d", mark, e, want)
		}
	default:
		if m.read < len(m.coins) {
			comes(t, "a coin", x, m.coins[m.read])
			m.read++
			break
		}
		m.dead = true
		ends(t, "behind the end", x, m.read)
	}
	return nil
}

// P1, P9.1, P9.2: any calls, one behind the other, come to what the chapter
// says, of clones of clones, too.
func TestEveryArgument(t *testing.T) {
	chance := rand.New(rand.NewSource(6))
	for range 200 {
		b := make([]byte, chance.Intn(6))
		chance.Read(b)
		n := chance.Intn(60) - 5
		coins := coinsOf(b...)
		models := []*model{{coins: coins[:max(0, min(n, len(coins)))]}}
		tapes := []*tape.Tape{tape.FromBytes(b, n)}
		for range 300 {
			i := chance.Intn(len(tapes))
			if c := models[i].step(t, chance, tapes[i]); c != nil && len(tapes) < 8 {
				same := *models[i]
				models, tapes = append(models, &same), append(tapes, c)
			}
			for i, m := range models {
				is(t, "any", tapes[i], m.read, len(m.coins)-m.read, m.dead)
			}
		}
	}
}
