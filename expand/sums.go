package expand

import (
	"math"
	"slices"

	"trivet/eft"
)

// grown is the list with x behind its end, unless x is 0.
func grown(e []float64, x float64) []float64 {
	if x == 0 {
		return e
	}
	return append(e, x)
}

// joined is the sum of two lists whose floats rise and do not overlap, as one
// more such list, of as many floats as both have at most. The floats of both
// are taken in one rising order, and what was rounded off the sum of all before
// is added to the next one first: so what is rounded off that is less than the
// lowest bit of all that is still to come, and of the sum, and can be told.
func joined(e, f []float64) []float64 {
	next := func() float64 {
		var x float64
		if len(f) == 0 || len(e) > 0 && math.Abs(e[0]) <= math.Abs(f[0]) {
			x, e = e[0], e[1:]
		} else {
			x, f = f[0], f[1:]
		}
		return x
	}
	all := make([]float64, 0, len(e)+len(f))
	var sum, rest, low float64
	for range len(e) + len(f) {
		rest, low = eft.Sum(next(), rest)
		all = grown(all, low)
		sum, rest = eft.Sum(sum, rest)
	}
	return grown(grown(all, rest), sum)
}

// scaled is the product of a safe list and a safe float, of twice as many
// floats at most. The lower half of each product is added to the sum of all
// before ahead of the upper one: what is rounded off either time is less than
// the lowest bit of all that is still to come, and can be told.
func scaled(e []float64, b float64) []float64 {
	all := make([]float64, 0, 2*len(e))
	var sum, rest float64
	for _, x := range e {
		high, low := eft.Prod(x, b)
		sum, rest = eft.Sum(sum, low)
		all = grown(all, rest)
		sum, rest = eft.Sum(high, sum)
		all = grown(all, rest)
	}
	return grown(all, sum)
}

// squeezed is the same number in floats each of which takes in, from the last
// one down, what it can of those below it. What is rounded off a float is at
// most half of the last bit it has room for, and just half only where that bit
// is 0: so all that is left below it, rounded too, is less than its lowest bit,
// and stands at least 52 bits below it. That leaves room for some 40 floats
// from 2^992 down to 2^-1074, the least one: fewer than MaxTerms, however many
// were handed in.
func squeezed(e []float64) []float64 {
	if len(e) == 0 {
		return nil
	}
	var all []float64
	sum, rest := lead(e), 0.0
	for _, x := range slices.Backward(e[:len(e)-1]) {
		sum, rest = eft.Sum(sum, x)
		if rest != 0 {
			all = append(all, sum)
			sum = rest
		}
	}
	all = append(all, sum)
	slices.Reverse(all)
	return all
}
