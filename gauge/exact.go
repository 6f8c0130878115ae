package gauge

import (
	"math"

	"trivet/api"
	"trivet/whole"
)

// place is a point's coordinates, or a way's.
type place [2]whole.Num

func placeOf(p api.Point) place { return place{whole.Of(p.X), whole.Of(p.Y)} }

// way is the way from a to b.
func way(a, b api.Point) place { return placeOf(b).less(placeOf(a)) }

func (p place) less(q place) place {
	for i, x := range q {
		p[i] = p[i].Sub(x)
	}
	return p
}

// across turns a way to the right: the product of a way with it is the sum of
// chapter 4.
func across(p place) place { return place{p[1], p[0].Neg()} }

// adder begins a sum: each call brings a product more to it, and tells it.
func adder() func(x, y whole.Num) whole.Num {
	var sum whole.Num
	return func(x, y whole.Num) whole.Num {
		sum = sum.Add(x.Mul(y))
		return sum
	}
}

// product is the product of two ways.
func product(p, q place) (sum whole.Num) {
	add := adder()
	for i, x := range p {
		sum = add(x, q[i])
	}
	return sum
}

func square(p place) whole.Num { return product(p, p) }

// middle is the middle of three points, both coordinates times weight: twice
// their sum of chapter 4, which is not 0 if they do not lie on a line. All three
// points have the same part in it, so their order is no matter but for the sign
// of all that comes out.
func middle(a, b, c api.Point) (x, y, weight whole.Num) {
	addX, addY, addWeight := adder(), adder(), adder()
	corners := [3]place{placeOf(a), placeOf(b), placeOf(c)}
	for i, p := range corners {
		beside := across(corners[(i+1)%3].less(corners[(i+2)%3]))
		size := square(p)
		x = addX(size, beside[0])
		y = addY(size, beside[1])
		weight = addWeight(p[0].Shift(1), beside[0])
	}
	return x, y, weight
}

// nearest is the float nearest to n / d. Rounded floats' quotient is some floats
// off it at most, and is moved on as long as the next one is nearer. (Of a middle
// all that is not 0 here lies between 2^-510 and 2^510, so that none is too great
// or too small to be a float.)
func nearest(n, d whole.Num) float64 {
	f := float64(n.Float() / d.Float())
	for _, end := range [2]float64{math.Inf(-1), math.Inf(1)} {
		for next := math.Nextafter(f, end); nearer(n, d, f, next); next = math.Nextafter(f, end) {
			f = next
		}
	}
	return f
}

// nearer tells whether n / d lies beyond the half way from f to next, the float
// beside it; just on it, the one whose last bit is 0 is taken.
func nearer(n, d whole.Num, f, next float64) bool {
	twiceHalf := whole.Of(f).Add(whole.Of(next)).Mul(d)
	switch n.Shift(1).Cmp(twiceHalf) * d.Sign() {
	case 1:
		return next > f
	case -1:
		return next < f
	}
	return math.Float64bits(f)&1 == 1
}
