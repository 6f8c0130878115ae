package gauge_test

import (
	"math"
	"math/rand/v2"
	"testing"

	"trivet/api"
	"trivet/gauge"
)

func pointIs(t *testing.T, a, b api.Point, part float64, want api.Point) {
	t.Helper()
	if p, ok := gauge.Point(a, b, part); !ok || !same(p, want) {
		t.Errorf("Point(%x, %x, %x): %x, %v, want %x", a, b, part, p, ok, want)
	}
	pointAsked(t, a, b, part)
}

func noPoint(t *testing.T, a, b api.Point, part float64) {
	t.Helper()
	if p, ok := gauge.Point(a, b, part); ok || !same(p, at(0, 0)) {
		t.Errorf("Point(%x, %x, %x): %x, %v", a, b, part, p, ok)
	}
	pointAsked(t, a, b, part)
}

// parts are all parts that the edges are made of, wrong ones too.
func parts() []float64 {
	least := math.SmallestNonzeroFloat64
	list := []float64{0, minusZero(), least, -least, 0x1p-1022, 0x1p-100, 0x1p-53, 0.1, 0.25, 0.5, 0.75, 1 - 0x1p-53, 1, 1 + 0x1p-52, 2, math.MaxFloat64, math.NaN()}
	for _, x := range list {
		list = append(list, -x)
	}
	return append(list, math.Inf(1), math.Inf(-1))
}

func TestPointAtEachPart(t *testing.T) {
	r := rand.New(rand.NewPCG(6, 30))
	edges := edgeFloats()
	for range 300 {
		draw := drawer(r)
		if r.IntN(3) == 0 {
			draw = func() api.Point { return at(edges[r.IntN(len(edges))], edges[r.IntN(len(edges))]) }
		}
		a, b := draw(), draw()
		for _, part := range parts() {
			pointAsked(t, a, b, part)
			pointAsked(t, a, a, part)
		}
		pointIs(t, a, b, 0, at(noMinus(a.X), noMinus(a.Y)))
		pointIs(t, a, b, minusZero(), at(noMinus(a.X), noMinus(a.Y)))
	}
}

func TestPointFromNoughtToOne(t *testing.T) {
	a, b := at(1, -2), at(5, 6)
	pointIs(t, a, b, 0, a)
	pointIs(t, a, b, minusZero(), a)
	pointIs(t, a, b, math.SmallestNonzeroFloat64, a)
	pointIs(t, a, b, 0.25, at(2, 0))
	pointIs(t, a, b, 1-0x1p-53, at(5, math.Nextafter(6, 0)))
	pointIs(t, a, b, 1, b)
	for _, part := range []float64{-math.SmallestNonzeroFloat64, -0x1p-1022, -1, 1 + 0x1p-52, 2, math.MaxFloat64, -math.MaxFloat64} {
		noPoint(t, a, b, part)
		noPoint(t, a, a, part)
	}
}

// Each bracket is rounded by itself, so that not even 1 need lead to the end.
func TestPointRounds(t *testing.T) {
	pointIs(t, at(-1, 0), at(0x1p-60, 0), 1, at(0, 0))
	pointIs(t, at(0x1p53, 0), at(1, 0), 1, at(1, 0))
	pointIs(t, at(-0x1p53, 0), at(1, 0), 1, at(0, 0))
	// The difference is rounded to 2^53, and the product to 2^53 / 3.
	third := 0x1.5555555555555p-2
	pointIs(t, at(-1, 0), at(0x1p53, 0), third, at(third*0x1p53-1, 0))
	// 0.1 times 3 is rounded ahead of being added.
	pointIs(t, at(-0.25, 0), at(2.75, 0), 0.1, at(0x1.99999999999ap-5, 0))
	// The greatest segment of all stays where points may be.
	great, next := 0x1p100, math.Nextafter(0x1p100, 0)
	pointIs(t, at(-next, -great), at(great, great), 1, at(great, great))
	pointIs(t, at(-great, great), at(great, -next), 1, at(great, -great))
}

func TestPointIsNoMinusZero(t *testing.T) {
	zero, least := minusZero(), math.SmallestNonzeroFloat64
	pointIs(t, at(1, -1), at(-1, 1), 0.5, at(0, 0))
	pointIs(t, at(zero, zero), at(zero, zero), 0.5, at(0, 0))
	pointIs(t, at(zero, zero), at(-4, 4), 0, at(0, 0))
	pointIs(t, at(zero, 0), at(-4, -4), zero, at(0, 0))
	// The least part of a quarter is rounded to 0, from either side.
	pointIs(t, at(zero, zero), at(-0.25, 0.25), least, at(0, 0))
	pointIs(t, at(-1, 3), at(zero, zero), 1, at(0, 0))
}

// Too fine; that a point of a segment is too great does not come about.
func TestPointTooFine(t *testing.T) {
	step, least := 0x1p-100, math.SmallestNonzeroFloat64
	pointIs(t, at(0, 0), at(2*step, 1), 0.5, at(step, 0.5))
	noPoint(t, at(0, 0), at(step, 1), 0.5)
	noPoint(t, at(0, 0), at(1, step), 0.5)
	noPoint(t, at(step, -step), at(0, 0), 0.5)
	noPoint(t, at(0, 0), at(1, 0), 0x1p-101)
	pointIs(t, at(0, 0), at(1, 0), 0x1p-100, at(step, 0))
	noPoint(t, at(0, 1), at(1, 1), least)
	noPoint(t, at(1, 0), at(1, -1), least)
	pointIs(t, at(1, 1), at(2, -2), least, at(1, 1))
	noPoint(t, at(0, 0), at(0x1p100, 1), 0x1.0000000000001p-150)
	pointIs(t, at(0, 0), at(0x1p100, 0), 0x1.0000000000001p-148, at(0x1.0000000000001p-48, 0))
}
