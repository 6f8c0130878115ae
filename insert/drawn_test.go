package insert_test

import (
	"fmt"
	"math"
	"math/rand/v2"
	"slices"
	"testing"

	"trivet/api"
	"trivet/flip"
	"trivet/insert"
	"trivet/walk"
)

// jittered are the points of a grid, each moved a little, and two triangles for
// each of its squares, over one diagonal or the other.
func jittered(r *rand.Rand, wide, high int) ([]api.Point, []api.Tri) {
	var points []api.Point
	var tris []api.Tri
	for i := range wide * high {
		points = append(points, at(float64(i%wide*10+r.IntN(5)), float64(i/wide*10+r.IntN(5))))
		if i%wide == wide-1 || i/wide == high-1 {
			continue
		}
		a, b, c, d := i, i+1, i+wide, i+wide+1
		if r.IntN(2) == 0 {
			tris = append(tris, api.Tri{a, b, c}, api.Tri{b, d, c})
		} else {
			tris = append(tris, api.Tri{a, b, d}, api.Tri{a, d, c})
		}
	}
	return points, tris
}

// drawnWithin is a point within a square: a whole one, or one of many bits.
func drawnWithin(r *rand.Rand) api.Point {
	if r.IntN(3) == 0 {
		return at(float64(r.IntN(65)), float64(r.IntN(65)))
	}
	return at(math.Round(r.Float64()*0x1p40)*0x1p-34, math.Round(r.Float64()*0x1p40)*0x1p-34)
}

// split are points within a square, and triangles over the square that are what is
// left when each point in turn has split the triangles that it lies in or on: some
// of them are very thin.
func split(r *rand.Rand, n int) ([]api.Point, []api.Tri) {
	points := []api.Point{at(0, 0), at(64, 0), at(64, 64), at(0, 64)}
	tris := []api.Tri{{0, 1, 2}, {0, 2, 3}}
	for len(points) < n {
		if p := drawnWithin(r); !slices.Contains(points, p) {
			points = append(points, p)
		}
	}
	var spots []spot
	for _, p := range points {
		spots = append(spots, spotOf(p))
	}
	for i := 4; i < len(points); i++ {
		tris = splitAt(spots, tris, i)
	}
	return points, tris
}

// splitAt puts three triangles at a point in the place of the one that has it inside,
// two for one that has it on an edge.
func splitAt(spots []spot, tris []api.Tri, n int) []api.Tri {
	var l []api.Tri
	for _, t := range tris {
		var sides [3]int
		for i := range t {
			sides[i] = twice(spots[t[i]], spots[t[(i+1)%3]], spots[n]).Sign()
		}
		if slices.Min(sides[:]) < 0 {
			l = append(l, t)
			continue
		}
		for i, s := range sides {
			if s > 0 {
				l = append(l, api.Tri{t[i], t[(i+1)%3], n})
			}
		}
	}
	return l
}

// shuffled are the same points with other numbers, some of them loose ones, some
// alike a corner, and the triangles in another order, from some corner on.
func shuffled(r *rand.Rand, points []api.Point, tris []api.Tri) ([]api.Point, []api.Tri) {
	all := slices.Clone(points)
	for range r.IntN(3) {
		all = append(all, points[r.IntN(len(points))], at(float64(r.IntN(65)), float64(r.IntN(65))))
	}
	to := r.Perm(len(all))
	moved := make([]api.Point, len(all))
	for i, p := range all {
		moved[to[i]] = p
	}
	var l []api.Tri
	for _, t := range tris {
		by := r.IntN(3)
		l = append(l, api.Tri{to[t[by]], to[t[(by+1)%3]], to[t[(by+2)%3]]})
	}
	r.Shuffle(len(l), func(i, j int) { l[i], l[j] = l[j], l[i] })
	return moved, l
}

// grown makes all coordinates 2^k times as large.
func grown(points []api.Point, k int) []api.Point {
	l := make([]api.Point, len(points))
	for i, p := range points {
		l[i] = at(math.Ldexp(p.X, k), math.Ldexp(p.Y, k))
	}
	return l
}

// drawnFixes are edges, many or few, some of which are there.
func drawnFixes(r *rand.Rand, n int, tris []api.Tri) [][2]int {
	var l [][2]int
	for range r.IntN(1+len(tris)/2) * r.IntN(2) {
		c := tris[r.IntN(len(tris))]
		l = append(l, [2]int{c[0], c[1]})
		if a, b := r.IntN(n), r.IntN(n); a != b {
			l = append(l, [2]int{a, b})
		}
	}
	return l
}

// drawnPair is a mesh that covers a square, or less than that, with holes and in
// parts; often much greater, or much smaller, and often with all edges in order.
func drawnPair(t *testing.T, r *rand.Rand, n int) pair {
	t.Helper()
	points, tris := split(r, 4+r.IntN(n*n))
	if r.IntN(3) == 0 {
		points, tris = jittered(r, 2+r.IntN(n), 2+r.IntN(n))
	}
	points, tris = shuffled(r, points, tris)
	if r.IntN(3) == 0 {
		tris = tris[:r.IntN(len(tris)+1)]
	}
	if r.IntN(3) == 0 {
		points = grown(points, r.IntN(140)-50)
	}
	x := made(t, points, tris, drawnFixes(r, len(points), tris)...)
	if r.IntN(2) == 0 {
		flip.All(x.m)
		x.w = x.w.with(x.m.Tris())
	}
	return x
}

// drawnPile is a mesh of few points, some of them alike, and triangles that lie
// upon one another.
func drawnPile(t *testing.T, r *rand.Rand, n int) pair {
	t.Helper()
	var points []api.Point
	for range 3 + r.IntN(n) {
		p := at(float64(r.IntN(5)), float64(r.IntN(5)))
		if r.IntN(2) == 0 {
			p = at(r.Float64()*4, r.Float64()*4)
		}
		points = append(points, p)
	}
	x := made(t, points, nil)
	for range r.IntN(10 * len(points)) {
		x.m.Make(r.IntN(len(points)), r.IntN(len(points)), r.IntN(len(points)))
	}
	tris := x.m.Tris()
	return made(t, points, tris, drawnFixes(r, len(points), tris)...)
}

// drawnPoint is near or on what the mesh has, or in the line of one of its edges, or
// far away.
func drawnPoint(r *rand.Rand, w *model) api.Point {
	any := func() api.Point { return w.points[r.IntN(len(w.points))] }
	p, q := any(), any()
	if edges := w.edges(); len(edges) > 0 && r.IntN(4) > 0 {
		e := edges[r.IntN(len(edges))]
		p, q = w.points[e[0]], w.points[e[1]]
	}
	part := [...]float64{0, 0.5, 0.5, 0.25, 0.875, 1.5, -0.5, 2, -9, r.Float64()}[r.IntN(10)]
	on := at(p.X+part*(q.X-p.X), p.Y+part*(q.Y-p.Y))
	if r.IntN(3) == 0 {
		s := any()
		on = at((p.X+q.X+s.X)/3, (p.Y+q.Y+s.Y)/3)
	}
	return at(math.Trunc(on.X*0x1p100)*0x1p-100, math.Trunc(on.Y*0x1p100)*0x1p-100)
}

// Drawn meshes, few triangles and many, with holes and parts and loose points, and
// such as lie upon one another: points are taken in one by one.
func TestDrawn(t *testing.T) {
	r := rand.New(rand.NewPCG(18, 1))
	kinds, errors, disorder := map[uint8]int{}, map[api.Errno]int{}, 0
	for i := range 240 {
		var x pair
		if i%3 == 0 {
			x = drawnPile(t, r, 4+i%12)
		} else {
			x = drawnPair(t, r, 2+i%8)
		}
		for range 8 {
			p, seed := drawnPoint(r, x.w), r.Uint64()
			place, _ := walk.Find(x.m, p, seed)
			y, e := x.takes(t, p, seed)
			x = y
			errors[e]++
			if e == api.OK {
				kinds[place.Kind]++
			}
			if len(x.w.wrong()) > 0 {
				disorder++
			}
		}
	}
	for _, kind := range []uint8{api.Inside, api.OnEdge, api.Outside} {
		if kinds[kind] < 150 {
			t.Error("too few places of one kind:", kind, kinds[kind])
		}
	}
	if errors[api.ErrTwice] < 50 || errors[api.ErrMesh] < 20 || errors[api.ErrNone] < 8 || disorder < 100 {
		t.Error("too few faults, or too often all edges were in order:", errors, disorder)
	}
}

// Of small meshes all that may come of settling is looked for, whichever edge is
// turned first.
func TestDrawnEnds(t *testing.T) {
	r := rand.New(rand.NewPCG(18, 2))
	looked, same := 0, 0
	for i := range 500 {
		x := drawnPair(t, r, 3)
		if i%3 == 0 {
			x = drawnPile(t, r, 5)
		}
		p, seed := drawnPoint(r, x.w), r.Uint64()
		y, e := x.takes(t, p, seed)
		if e != api.OK {
			continue
		}
		place, _ := walk.Find(x.m, p, seed)
		w, came, _ := x.w.taken(p, place)
		ends, whole := w.ends(sidesOf(came))
		if !whole {
			continue
		}
		if !ends[fmt.Sprint(y.w.tris)] {
			t.Fatalf("Point of %v at %v in %v: %v; want one of %v", p, place, x.w.tris, y.w.tris, ends)
		}
		looked++
		if slices.Equal(y.w.tris, w.tris) {
			same++
		}
	}
	if looked < 250 || same > looked-80 {
		t.Error("too few ends:", looked, same)
	}
}

// Where all edges are fixed, what came is what there is: unless it is outside, no edge
// of a new point may be turned.
func TestAllFixed(t *testing.T) {
	r := rand.New(rand.NewPCG(18, 3))
	taken := 0
	for i := range 150 {
		x := drawnPair(t, r, 2+i%7)
		if i%4 == 0 {
			x = drawnPile(t, r, 9)
		}
		for _, e := range x.m.Edges() {
			x.m.Fix(e[0], e[1], r.IntN(9))
		}
		x.w = modelOf(x.m.Points(), x.m.Tris(), x.m.Fixes())
		for range 6 {
			p, seed := drawnPoint(r, x.w), r.Uint64()
			place, _ := walk.Find(x.m, p, seed)
			y, e := x.takes(t, p, seed)
			if e != api.OK || place.Kind == api.Outside {
				continue
			}
			if w, _, _ := x.w.taken(p, place); !slices.Equal(y.m.Tris(), w.tris) {
				t.Fatalf("Point of %v at %v: %v; want %v", p, place, y.m.Tris(), w.tris)
			}
			taken++
		}
	}
	if taken < 200 {
		t.Error("too few were taken in:", taken)
	}
}

// A mesh of very many triangles: if each point took a look at all of it, it would take
// far too long.
func TestVeryMany(t *testing.T) {
	r := rand.New(rand.NewPCG(18, 4))
	points, tris := jittered(r, 250, 250)
	x := made(t, points, nil)
	for _, c := range tris {
		x.m.Make(c[0], c[1], c[2])
	}
	flip.All(x.m)
	border := x.m.Border()
	const more = 30000
	for i := range more {
		p := at(5+r.Float64()*2480, 5+r.Float64()*2480)
		if i%4 == 0 {
			p = at(math.Round(p.X), math.Round(p.Y))
		}
		n, e := insert.Point(x.m, p, r.Uint64())
		if e == api.ErrTwice {
			p = at(p.X+1.0/3, p.Y+1.0/3)
			n, e = insert.Point(x.m, p, r.Uint64())
		}
		if n != len(points)+i || e != api.OK {
			t.Fatal("Point:", n, e)
		}
	}
	if x.m.Count() != len(tris)+2*more || !slices.Equal(x.m.Border(), border) {
		t.Error("other triangles, or another border:", x.m.Count())
	}
	if n, e := flip.All(x.m); n != 0 || e != api.OK {
		t.Error("not all edges are in order:", n, e)
	}
}
