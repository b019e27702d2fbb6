// Package laws puts the counters of chain and thin to the same tests: of what
// their Incs, Adds and Merges take of a tape and come to, and of what the
// answers of all tapes weigh. It has tests alone.
package laws

import (
	"fmt"
	"math/rand"
	"testing"

	"tallymark/api"
	"tallymark/tape"
)

// counter is a Param of either layer.
type counter[S comparable] interface {
	Inc(t *tape.Tape, s S) (S, api.Errno)
	Add(t *tape.Tape, s S, n int) (S, api.Errno)
	Merge(t *tape.Tape, s, o S) (S, api.Errno)
}

// deed is what is done with a tape, and answers a state.
type deed[S comparable] func(t *tape.Tape) (S, api.Errno)

// call is an Inc, an Add or a Merge, all but its tape given: was is the state
// that it is handed, which it answers beside an error.
type call[S comparable] struct {
	what string
	was  S
	do   deed[S]
}

func inc[S comparable](p counter[S], s S) call[S] {
	return call[S]{fmt.Sprintf("%v: Inc of %v", p, s), s, func(t *tape.Tape) (S, api.Errno) { return p.Inc(t, s) }}
}

func add[S comparable](p counter[S], s S, n int) call[S] {
	return call[S]{fmt.Sprintf("%v: Add of %d to %v", p, n, s), s, func(t *tape.Tape) (S, api.Errno) { return p.Add(t, s, n) }}
}

func merge[S comparable](p counter[S], s, o S) call[S] {
	return call[S]{fmt.Sprintf("%v: Merge of %v and %v", p, s, o), s, func(t *tape.Tape) (S, api.Errno) { return p.Merge(t, s, o) }}
}

// incs are so many Incs, one behind the other.
func incs[S comparable](p counter[S], s S, n int) deed[S] {
	return func(t *tape.Tape) (S, api.Errno) {
		now := s
		for range n {
			var e api.Errno
			if now, e = p.Inc(t, now); e != api.OK {
				return s, e
			}
		}
		return now, api.OK
	}
}

// coinsOf tells the coins of a text, 1 for yes.
func coinsOf(text string) []bool {
	coins := make([]bool, len(text))
	for i := range text {
		coins[i] = text[i] == '1'
	}
	return coins
}

// someCoins tells a text of coins, of which many are yes.
func someCoins(chance *rand.Rand, most int) string {
	b := make([]byte, chance.Intn(most+1))
	for i := range b {
		b[i] = '1'
		if chance.Intn(3) == 0 {
			b[i] = '0'
		}
	}
	return string(b)
}

// dead tells a tape of these coins, all of them gone, and one more asked for.
func dead(text string) *tape.Tape {
	x := tape.New(coinsOf(text)...)
	for range len(text) + 1 {
		x.Flip()
	}
	return x
}

// asked asks for what a call answers of these coins, and how many of them it
// takes.
func asked[S comparable](t *testing.T, ask call[S], text string, want S, fault api.Errno, read int) {
	t.Helper()
	x := tape.New(coinsOf(text)...)
	got, e := ask.do(x)
	if got != want || e != fault || x.Read() != read || x.Dead() != (fault == api.ErrTape) {
		t.Fatalf("%s, of %s: %v, %d, %d read, dead %v; not %v, %d, %d", ask.what, text, got, e, x.Read(), x.Dead(), want, fault, read)
	}
}

// answers asks for what a call answers of just these coins. P2: with more of
// them behind it answers the same, and leaves those; of fewer it has too few.
func answers[S comparable](t *testing.T, ask call[S], text string, want S) {
	t.Helper()
	for _, more := range []string{"", "0", "1", "0110", "1111111111"} {
		asked(t, ask, text+more, want, api.OK, len(text))
	}
	for n := range len(text) {
		short(t, ask, text[:n])
	}
}

// short asks for ErrTape of coins that are too few: the state is as it was,
// however far it had come, and the coins are gone; of a dead tape, too.
func short[S comparable](t *testing.T, ask call[S], text string) {
	t.Helper()
	asked(t, ask, text, ask.was, api.ErrTape, len(text))
	x := dead(text)
	if got, e := ask.do(x); got != ask.was || e != api.ErrTape || x.Read() != len(text) || !x.Dead() {
		t.Fatalf("%s, of %s, dead: %v, %d, dead %v", ask.what, text, got, e, x.Dead())
	}
}

// coinless asks for an answer, or an error, without a coin: of a tape that is
// dead, too, which stays so.
func coinless[S comparable](t *testing.T, ask call[S], want S, fault api.Errno) {
	t.Helper()
	for _, text := range []string{"", "0", "1", "1111"} {
		asked(t, ask, text, want, fault, 0)
		x := dead(text)
		if got, e := ask.do(x); got != want || e != fault || x.Read() != len(text) || !x.Dead() {
			t.Fatalf("%s, of %s, dead: %v, %d, dead %v; not %v, %d", ask.what, text, got, e, x.Dead(), want, fault)
		}
	}
}

// refused asks for an error, beside which the state is as it was, without a
// coin.
func refused[S comparable](t *testing.T, ask call[S], fault api.Errno) {
	t.Helper()
	coinless(t, ask, ask.was, fault)
}

// same asks a call for what it should be, of these coins.
func same[S comparable](t *testing.T, ask call[S], should deed[S], text string) {
	t.Helper()
	x := tape.New(coinsOf(text)...)
	want, e := should(x)
	asked(t, ask, text, want, e, x.Read())
}

// turn is one of several calls that go on with the same tape.
type turn[S comparable] struct {
	ask  call[S]
	want S
	read int
}

// inTurn asks calls of one tape, of which a few coins are left behind them. Each
// takes coins from the next one on; short ones then have too few: they leave the
// state as it was, and the tape dead. What is sure is told nevertheless, and
// back at its beginning the tape tells the same again.
func inTurn[S comparable](t *testing.T, text string, turns []turn[S], short []call[S], sure turn[S]) {
	t.Helper()
	x := tape.New(coinsOf(text)...)
	for range 2 {
		for i, y := range turns {
			if got, e := y.ask.do(x); got != y.want || e != api.OK || x.Read() != y.read || x.Dead() {
				t.Fatalf("turn %d, %s: %v, %d, %d read, not %v, %d", i, y.ask.what, got, e, x.Read(), y.want, y.read)
			}
		}
		for _, ask := range short {
			if got, e := ask.do(x); got != ask.was || e != api.ErrTape || x.Read() != len(text) || !x.Dead() {
				t.Fatalf("%s at the end: %v, %d, %d read, dead %v", ask.what, got, e, x.Read(), x.Dead())
			}
		}
		if got, e := sure.ask.do(x); got != sure.want || e != api.OK || x.Read() != len(text) || !x.Dead() {
			t.Fatalf("%s of a dead tape: %v, %d, dead %v", sure.ask.what, got, e, x.Dead())
		}
		x.Back(0)
	}
}
