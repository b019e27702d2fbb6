package chain

import (
	"math/bits"

	"tallymark/api"
	"tallymark/float"
	"tallymark/morris"
	"tallymark/rat"
	"tallymark/tape"
	"tallymark/yu"
)

// kind is a kind of counter, its parameter within: what a chain asks of it.
type kind interface {
	good(top int) bool // may it be, with places up to top?
	chance(k int) (rat.Rat, api.Errno)
	value(k int) (rat.Rat, api.Errno)
	reply(k int) (rat.Rat, api.Errno)
	step(t *tape.Tape, k int) (bool, api.Errno)
	again(t *tape.Tape, k, from int) (bool, api.Errno)
}

// kind tells a Param's kind: nil, if there is no such one.
func (p Param) kind() kind {
	switch p.Kind {
	case Morris:
		return morrisKind(p.A)
	case Float:
		return floatKind(p.A)
	case Yu:
		return yuKind(p.A)
	}
	return nil
}

// morrisKind is Morris's counter: the number is its a.
type morrisKind int

// good asks for a last place, too, of which the chance can still be reckoned.
func (a morrisKind) good(top int) bool {
	return morris.Good(int(a)) && bits.Len(uint(a+1))*top <= api.MaxNat
}

func (a morrisKind) chance(k int) (rat.Rat, api.Errno) { return morris.Chance(int(a), k) }

func (a morrisKind) value(k int) (rat.Rat, api.Errno) { return morris.Value(int(a), k) }

func (a morrisKind) reply(k int) (rat.Rat, api.Errno) { return a.value(k) }

func (a morrisKind) step(t *tape.Tape, k int) (bool, api.Errno) { return morris.Step(t, int(a), k) }

func (a morrisKind) again(t *tape.Tape, k, from int) (bool, api.Errno) {
	return morris.Again(t, int(a), k, from)
}

// floatKind is Csűrös's counter: the number is its d.
type floatKind int

func (d floatKind) good(int) bool { return float.Good(int(d)) }

func (d floatKind) chance(k int) (rat.Rat, api.Errno) { return float.Chance(int(d), k) }

func (d floatKind) value(k int) (rat.Rat, api.Errno) {
	n, e := float.Value(int(d), k)
	return rat.Nat(n), e
}

func (d floatKind) reply(k int) (rat.Rat, api.Errno) { return d.value(k) }

func (d floatKind) step(t *tape.Tape, k int) (bool, api.Errno) { return float.Step(t, int(d), k) }

func (d floatKind) again(t *tape.Tape, k, from int) (bool, api.Errno) {
	return float.Again(t, int(d), k, from)
}

// yuKind is Nelson's and Yu's counter: the number is its s.
type yuKind int

func (s yuKind) good(int) bool { return yu.Good(int(s)) }

func (s yuKind) chance(k int) (rat.Rat, api.Errno) { return yu.Chance(int(s), k) }

func (s yuKind) value(k int) (rat.Rat, api.Errno) {
	place, e := yu.At(int(s), k)
	return rat.Nat(place.Value), e
}

func (s yuKind) reply(k int) (rat.Rat, api.Errno) {
	place, e := yu.At(int(s), k)
	return rat.Nat(place.Reply), e
}

func (s yuKind) step(t *tape.Tape, k int) (bool, api.Errno) { return yu.Step(t, int(s), k) }

func (s yuKind) again(t *tape.Tape, k, from int) (bool, api.Errno) {
	return yu.Again(t, int(s), k, from)
}
