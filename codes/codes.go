// Package codes is layer 2, numbers in as many bits as they need: see
// shared/doc/02-codes.md.
package codes

import (
	binary "math/bits"

	"tallymark/api"
	"tallymark/bits"
)

const (
	longest = 64 // bits of the greatest number
	group   = 7  // bits of a number in a group of Var
	behind  = 1 << group
	groups  = (longest + group - 1) / group // of the greatest number
)

// PutGamma writes a number of 1 and above.
func PutGamma(w *bits.Writer, n uint64) api.Errno {
	if n == 0 {
		return api.ErrRange
	}
	k := highest(n)
	w.Num(0, k)
	return w.Num(n, k+1)
}

// Gamma reads what PutGamma writes.
func Gamma(r *bits.Reader) (uint64, api.Errno) { return whole(r, gamma) }

func gamma(r *bits.Reader) (uint64, api.Errno) {
	for k := range longest {
		is, e := r.Bit()
		if e != api.OK {
			return 0, e
		}
		if is {
			return below(r, k)
		}
	}
	return 0, api.ErrForm
}

// PutDelta writes a number of 1 and above.
func PutDelta(w *bits.Writer, n uint64) api.Errno {
	if n == 0 {
		return api.ErrRange
	}
	k := highest(n)
	PutGamma(w, uint64(k+1))
	return w.Num(n&^(1<<k), k)
}

// Delta reads what PutDelta writes.
func Delta(r *bits.Reader) (uint64, api.Errno) { return whole(r, delta) }

func delta(r *bits.Reader) (uint64, api.Errno) {
	n, e := gamma(r)
	if e != api.OK {
		return 0, e
	}
	if n > longest {
		return 0, api.ErrForm
	}
	return below(r, int(n)-1)
}

// PutVar writes a number in groups of seven bits, the lowest first.
func PutVar(w *bits.Writer, n uint64) {
	last := count(n) - 1
	for i := range last + 1 {
		g := (n >> (group * i)) % behind
		if i < last {
			g |= behind
		}
		w.Num(g, group+1)
	}
}

// Var reads what PutVar writes, and nothing else.
func Var(r *bits.Reader) (uint64, api.Errno) { return whole(r, groupwise) }

func groupwise(r *bits.Reader) (uint64, api.Errno) {
	var n uint64
	for i := range groups {
		g, e := r.Num(group + 1)
		if e != api.OK {
			return 0, e
		}
		bare := g % behind
		if bare<<(group*i)>>(group*i) != bare {
			return 0, api.ErrForm // it is above 2^64 - 1
		}
		n |= bare << (group * i)
		if g == bare {
			return ended(n, bare, i)
		}
	}
	return 0, api.ErrForm
}

// ended refuses a last group of 0 behind another one: without it the number
// would have been the same, so there would be two ways.
func ended(n, last uint64, i int) (uint64, api.Errno) {
	if last == 0 && i > 0 {
		return 0, api.ErrForm
	}
	return n, api.OK
}

// Gammas tells how many bits PutGamma writes.
func Gammas(n uint64) int {
	if n == 0 {
		return 0
	}
	return 2*highest(n) + 1
}

// Deltas tells how many bits PutDelta writes.
func Deltas(n uint64) int {
	if n == 0 {
		return 0
	}
	k := highest(n)
	return Gammas(uint64(k+1)) + k
}

// Vars tells how many bits PutVar writes.
func Vars(n uint64) int { return count(n) * (group + 1) }

// whole reads a number from a copy of the reader, so that beside an error the
// reader is where it was.
func whole(r *bits.Reader, read func(*bits.Reader) (uint64, api.Errno)) (uint64, api.Errno) {
	ahead := *r
	n, e := read(&ahead)
	if e == api.OK {
		*r = ahead
	}
	return n, e
}

// below reads the k lower bits of a number whose highest bit is the bit k.
func below(r *bits.Reader, k int) (uint64, api.Errno) {
	n, e := r.Num(k)
	if e != api.OK {
		return 0, e
	}
	return 1<<k | n, api.OK
}

// highest tells which bit of a number, that isn't 0, is the highest.
func highest(n uint64) int { return binary.Len64(n) - 1 }

// count tells how many groups Var has.
func count(n uint64) int { return (binary.Len64(n|1) + group - 1) / group }
