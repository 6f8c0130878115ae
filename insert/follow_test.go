package insert_test

import (
	"math/rand/v2"
	"slices"
	"testing"

	"trivet/api"
	"trivet/flip"
	"trivet/insert"
	"trivet/walk"
)

// started is a triangulation of a few points, whose edges are all in order, if it is
// told so.
func started(t *testing.T, r *rand.Rand, order bool) pair {
	t.Helper()
	x := made(t, []api.Point{at(20, 20), at(40, 21), at(30, 37)}, []api.Tri{{0, 1, 2}})
	if r.IntN(2) == 0 {
		points, tris := split(r, 4+r.IntN(30))
		x = made(t, points, tris)
	}
	if order {
		flip.All(x.m)
		x.w = x.w.with(x.m.Tris())
	}
	return x
}

// drawnAround is a point within the first points' square, on an edge of it or on its
// line, or further away; or the middle of an edge.
func drawnAround(r *rand.Rand, w *model) api.Point {
	switch r.IntN(6) {
	case 2:
		e := w.edges()[r.IntN(len(w.edges()))]
		p, q := w.points[e[0]], w.points[e[1]]
		return at((p.X+q.X)/2, (p.Y+q.Y)/2)
	case 0:
		return at(float64(r.IntN(11)-3)*16, float64(r.IntN(11)-3)*16)
	case 1:
		return at(r.Float64()*500-200, r.Float64()*500-200)
	}
	return drawnWithin(r)
}

// P18.2: a triangulation stays one, of one corner more; where all edges were in order,
// they are, and no corner lies within any triangle's circle.
func TestTriangulationsStay(t *testing.T) {
	r := rand.New(rand.NewPCG(18, 5))
	kinds := map[uint8]int{}
	for i := range 60 {
		order := i%3 > 0
		x := started(t, r, order)
		for range 20 {
			p, seed := drawnAround(r, x.w), r.Uint64()
			place, _ := walk.Find(x.m, p, seed)
			y, e := x.takes(t, p, seed)
			if e == api.ErrTwice && place.Kind == api.OnPoint {
				continue
			}
			if e != api.OK || !y.w.isTriangulation() {
				t.Fatalf("Point of %v at %v: %v, %v\npoints %v, triangles %v", p, place, e, y.w.tris, x.w.points, x.w.tris)
			}
			if order && len(y.w.wrong()) > 0 {
				t.Fatalf("not in order: %v; Point of %v at %v, points %v, triangles %v", y.w.wrong(), p, place, x.w.points, x.w.tris)
			}
			if len(y.w.corners()) != len(x.w.corners())+1 {
				t.Fatalf("%d corners came to %d", len(x.w.corners()), len(y.w.corners()))
			}
			x = y
			kinds[place.Kind]++
		}
		if order {
			x.empty(t)
		}
	}
	for _, kind := range []uint8{api.Inside, api.OnEdge, api.Outside} {
		if kinds[kind] < 60 {
			t.Error("too few places of one kind:", kind, kinds[kind])
		}
	}
}

// empty wants no corner within any triangle's circle.
func (x pair) empty(t *testing.T) {
	t.Helper()
	for _, c := range x.w.tris {
		for _, d := range x.w.corners() {
			if nearer(x.w.spots[c[0]], x.w.spots[c[1]], x.w.spots[c[2]], x.w.spots[d]) < 0 {
				t.Fatal("within the circle of", c, d)
			}
		}
	}
}

// changed are triangles with two numbers in one another's place.
func changed(tris []api.Tri, a, b int) []api.Tri {
	l := slices.Clone(tris)
	for i, c := range l {
		for j, n := range c {
			switch n {
			case a:
				l[i][j] = b
			case b:
				l[i][j] = a
			}
		}
	}
	return ownOrder(l)
}

// P18.4: two points in either order, with whatever seeds.
func TestAnyOrder(t *testing.T) {
	r := rand.New(rand.NewPCG(18, 6))
	any := func() api.Point { return at(r.Float64()*140-40, r.Float64()*140-40) }
	near := 0
	for i := range 250 {
		points := []api.Point{at(0, 0), at(64, 1), at(31, 66)}
		x := made(t, points, []api.Tri{{0, 1, 2}})
		for range i % 30 {
			if n, e := insert.Point(x.m, any(), r.Uint64()); n == 0 || e != api.OK {
				t.Fatal("Point:", n, e)
			}
		}
		p, q := any(), any()
		if i%2 == 0 {
			q = at(p.X+r.Float64(), p.Y+r.Float64())
		}
		n := x.m.Len()
		y, z := x.copy(), x.copy()
		y.taken(t, p, n, r.Uint64())
		y.taken(t, q, n+1, r.Uint64())
		z.taken(t, q, n, r.Uint64())
		z.taken(t, p, n+1, r.Uint64())
		if !slices.Equal(y.m.Tris(), changed(z.m.Tris(), n, n+1)) {
			t.Fatalf("%v and %v: %v; in the other order %v", p, q, y.m.Tris(), z.m.Tris())
		}
		if slices.Contains(y.m.Spokes(n), n+1) {
			near++
		}
	}
	if near < 100 {
		t.Error("too few had to do with one another:", near)
	}
}

// A whole row of points in any order, with whatever seeds: the same triangulation.
func TestRowsInAnyOrder(t *testing.T) {
	r := rand.New(rand.NewPCG(18, 7))
	for range 12 {
		var row []api.Point
		for range 40 {
			row = append(row, at(r.Float64()*140-40, r.Float64()*140-40))
		}
		var want []api.Tri
		for again := range 5 {
			x := made(t, []api.Point{at(0, 0), at(64, 1), at(31, 66)}, []api.Tri{{0, 1, 2}})
			to := []int{0, 1, 2}
			for n, i := range r.Perm(len(row)) {
				x.taken(t, row[i], n+3, r.Uint64())
				to = append(to, i+3)
			}
			l := x.m.Tris()
			for i, c := range l {
				l[i] = api.Tri{to[c[0]], to[c[1]], to[c[2]]}
			}
			if l = ownOrder(l); again == 0 {
				want = l
			} else if !slices.Equal(l, want) {
				t.Fatalf("%v, and %v", l, want)
			}
		}
	}
}
