// Package whole is layer 1: whole numbers of any size, times powers of two; see shared/doc/01-whole.md.
package whole

import (
	"cmp"
	"math"
)

// Most is how far a number's bits reach.
const Most = 65536

// Num is a number, or none. The magnitude of none is 0, so that what is asked
// of none is answered as of 0.
type Num struct {
	magnitude
	negative bool
	none     bool
}

// number is where every result becomes none that may not be, and where 0 loses
// its sign.
func number(m magnitude, negative bool) Num {
	if m.highest() > Most || m.lowest() < -Most {
		return Num{none: true}
	}
	return Num{magnitude: m, negative: negative && !m.isZero()}
}

// Of is the number that a float denotes.
func Of(x float64) Num {
	if math.IsNaN(x) || math.IsInf(x, 0) {
		return Num{none: true}
	}
	part, exp := math.Frexp(math.Abs(x))
	word := uint64(math.Ldexp(part, fractBits+1))
	m := magnitude{[]uint64{word}, exp - fractBits - 1}
	return number(m.ownForm(), x < 0)
}

// Int is a whole number.
func Int(n int64) Num {
	word := uint64(n)
	if n < 0 {
		word = -word // as words, since the least int64 turned about is none
	}
	return number(magnitude{words: []uint64{word}}.ownForm(), n < 0)
}

// Add is a sum.
func (a Num) Add(b Num) Num { return a.sum(b, b.negative) }

// Sub is a difference.
func (a Num) Sub(b Num) Num { return a.sum(b, !b.negative) }

// sum takes b with the sign that it is handed.
func (a Num) sum(b Num, negative bool) Num {
	switch {
	case a.none || b.none:
		return Num{none: true}
	case a.negative == negative:
		return number(a.plus(b.magnitude), negative)
	case a.against(b.magnitude) < 0:
		return number(b.minus(a.magnitude), negative)
	}
	return number(a.minus(b.magnitude), a.negative)
}

// Mul is a product.
func (a Num) Mul(b Num) Num {
	if a.none || b.none {
		return Num{none: true}
	}
	return number(a.times(b.magnitude), a.negative != b.negative)
}

// Shift is a number times a power of two.
func (a Num) Shift(k int) Num {
	if a.none || a.isZero() {
		return Num{none: a.none}
	}
	if k < -2*Most || k > 2*Most { // the places would wrap round
		return Num{none: true}
	}
	return number(a.moved(k), a.negative)
}

// Neg is it turned about.
func (a Num) Neg() Num {
	if a.none {
		return Num{none: true}
	}
	return number(a.moved(0), !a.negative)
}

// OK says whether it is a number.
func (a Num) OK() bool { return !a.none }

// Sign is its sign.
func (a Num) Sign() int {
	switch {
	case a.isZero():
		return 0
	case a.negative:
		return -1
	}
	return 1
}

// Cmp holds two against each other.
func (a Num) Cmp(b Num) int {
	if a.none || b.none {
		return 0
	}
	if c := cmp.Compare(a.Sign(), b.Sign()); c != 0 {
		return c
	}
	return a.Sign() * a.against(b.magnitude)
}

// High is its highest bit.
func (a Num) High() int { return a.highest() }

// Low is its lowest bit.
func (a Num) Low() int { return a.lowest() }

// Float is the float nearest to it.
func (a Num) Float() float64 {
	f := a.nearest()
	if a.negative && f > 0 { // what is too small is 0, not -0
		return -f
	}
	return f
}
