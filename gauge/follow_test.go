package gauge_test

import (
	"math"
	"math/rand/v2"
	"slices"
	"testing"

	"trivet/api"
	"trivet/gauge"
	"trivet/orient"
)

// corners are a triangle's angles, each at its first point.
func corners(a, b, c api.Point) [3][3]api.Point {
	return [3][3]api.Point{{a, b, c}, {b, c, a}, {c, a, b}}
}

// anglesHeld holds P6.5 of a triangle.
func anglesHeld(t *testing.T, a, b, c api.Point) {
	t.Helper()
	if orient.Sign(a, b, c) == 0 {
		return
	}
	below, small := 0, 0
	for _, l := range corners(a, b, c) {
		p, q, r := l[0], l[1], l[2]
		if gauge.Sharp(p, q, r, 0) != (gauge.Dot(q, r, p) > 0) {
			t.Fatalf("%x: Sharp by 0 %v, Dot %d", l, gauge.Sharp(p, q, r, 0), gauge.Dot(q, r, p))
		}
		if gauge.Sharp(p, q, r, 0) {
			below++
		}
		if gauge.Sharp(p, q, r, 0.25) {
			small++
		}
	}
	if below < 2 || small < 1 {
		t.Fatalf("%x, %x, %x: %d angles below a right one, %d below 60 degrees", a, b, c, below, small)
	}
}

func TestTriangles(t *testing.T) {
	r := rand.New(rand.NewPCG(6, 40))
	for range 5000 {
		draw := drawer(r)
		anglesHeld(t, draw(), draw(), draw())
		// All angles close to 60 degrees.
		a, w := anyPoint(r, -3, 3), at(r.Float64()-0.5, r.Float64()-0.5)
		half, height := 0.5, math.Sqrt(3)/2
		b := nudged(r, moved(a, w, 1))
		c := nudged(r, moved(moved(a, w, half), at(-w.Y, w.X), height))
		anglesHeld(t, a, b, c)
		// One angle a right one, or nearly.
		d := nudged(r, moved(a, at(-w.Y, w.X), 1))
		anglesHeld(t, a, b, d)
		// All nearly on a line.
		anglesHeld(t, a, b, nudged(r, moved(a, w, 4*r.Float64()-2)))
	}
}

// What is sharp by g is sharp by each lesser one.
func TestSharpByLess(t *testing.T) {
	r := rand.New(rand.NewPCG(6, 41))
	list := slices.DeleteFunc(bounds(), func(x float64) bool { return math.IsNaN(x) || math.IsInf(x, 0) })
	for range 1000 {
		draw := drawer(r)
		a, b, c := draw(), draw(), draw()
		all := append(slices.Clone(list), around(exactCosine2(a, b, c))...)
		slices.Sort(all)
		for i := 1; i < len(all); i++ {
			if gauge.Sharp(a, b, c, all[i]) && !gauge.Sharp(a, b, c, all[i-1]) {
				t.Fatalf("Sharp(%x, %x, %x) by %x, not by %x", a, b, c, all[i], all[i-1])
			}
		}
	}
}

// P6.6, of lengths that are alike or nearly so, and of all others.
func TestOneOrder(t *testing.T) {
	r := rand.New(rand.NewPCG(6, 42))
	type pair [2]api.Point
	for range 2000 {
		place, way := bothOf(r)
		w := way()
		ways := [4]api.Point{w, at(-w.Y, w.X), at(w.X, -w.Y), way()}
		draw := func() pair {
			a := place()
			b := moved(a, ways[r.IntN(4)], 1)
			if r.IntN(2) == 0 {
				b = nudged(r, b)
			}
			return pair{a, b}
		}
		if r.IntN(4) == 0 {
			any := drawer(r)
			draw = func() pair { return pair{any(), any()} }
		}
		p, q, s := draw(), draw(), draw()
		cmp := func(p, q pair) int { return gauge.Cmp(p[0], p[1], q[0], q[1]) }
		if cmp(p, q) != -cmp(q, p) || cmp(p, p) != 0 {
			t.Fatalf("%x, %x: %d, turned about %d", p, q, cmp(p, q), cmp(q, p))
		}
		if cmp(p, q) <= 0 && cmp(q, s) <= 0 && cmp(p, s) > 0 {
			t.Fatalf("%x, %x, %x: no order", p, q, s)
		}
		if cmp(p, q) == 0 && cmp(q, s) != cmp(p, s) {
			t.Fatalf("%x, %x, %x: alike, and not", p, q, s)
		}
	}
}
