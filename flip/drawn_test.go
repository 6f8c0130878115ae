package flip_test

import (
	"fmt"
	"math"
	"math/rand/v2"
	"slices"
	"testing"

	"trivet/api"
	"trivet/flip"
)

// jittered are the points of a grid, each moved a little, and two triangles for
// each of its squares, over one diagonal or the other.
func jittered(r *rand.Rand, wide, high int) ([]api.Point, []api.Tri) {
	var points []api.Point
	var tris []api.Tri
	for i := range wide * high {
		points = append(points, at(float64(i%wide*10+r.IntN(5)), float64(i/wide*10+r.IntN(5))))
		if i%wide == wide-1 || i/wide == high-1 {
			continue
		}
		a, b, c, d := i, i+1, i+wide, i+wide+1
		if r.IntN(2) == 0 {
			tris = append(tris, api.Tri{a, b, c}, api.Tri{b, d, c})
		} else {
			tris = append(tris, api.Tri{a, b, d}, api.Tri{a, d, c})
		}
	}
	return points, tris
}

// drawnWithin is a point within a square: a whole one, or one of many bits.
func drawnWithin(r *rand.Rand) api.Point {
	if r.IntN(3) == 0 {
		return at(float64(r.IntN(65)), float64(r.IntN(65)))
	}
	return at(math.Round(r.Float64()*0x1p40)*0x1p-34, math.Round(r.Float64()*0x1p40)*0x1p-34)
}

// split are points within a square, and triangles over the square that are what is
// left when each point in turn has split the triangles that it lies in or on: some
// of them are very thin.
func split(r *rand.Rand, n int) ([]api.Point, []api.Tri) {
	points := []api.Point{at(0, 0), at(64, 0), at(64, 64), at(0, 64)}
	tris := []api.Tri{{0, 1, 2}, {0, 2, 3}}
	for len(points) < n {
		if p := drawnWithin(r); !slices.Contains(points, p) {
			points = append(points, p)
		}
	}
	return points, splitBy(points, tris)
}

// splitBy puts in each point behind the first four.
func splitBy(points []api.Point, tris []api.Tri) []api.Tri {
	var spots []spot
	for _, p := range points {
		spots = append(spots, spotOf(p))
	}
	for n := 4; n < len(points); n++ {
		tris = splitAt(spots, tris, n)
	}
	return tris
}

// splitAt puts three triangles at a point in the place of the one that has it inside,
// two for one that has it on an edge.
func splitAt(spots []spot, tris []api.Tri, n int) []api.Tri {
	var l []api.Tri
	for _, t := range tris {
		var sides [3]int
		for i := range t {
			sides[i] = twice(spots[t[i]], spots[t[(i+1)%3]], spots[n]).Sign()
		}
		if slices.Min(sides[:]) < 0 {
			l = append(l, t)
			continue
		}
		for i, s := range sides {
			if s > 0 {
				l = append(l, api.Tri{t[i], t[(i+1)%3], n})
			}
		}
	}
	return l
}

// shuffled are the same points with other numbers, some of them loose ones, some
// alike a corner, and the triangles in another order, from some corner on.
func shuffled(r *rand.Rand, points []api.Point, tris []api.Tri) ([]api.Point, []api.Tri) {
	all := slices.Clone(points)
	for range r.IntN(3) {
		all = append(all, points[r.IntN(len(points))], at(float64(r.IntN(65)), float64(r.IntN(65))))
	}
	to := r.Perm(len(all))
	moved := make([]api.Point, len(all))
	for i, p := range all {
		moved[to[i]] = p
	}
	var l []api.Tri
	for _, t := range tris {
		by := r.IntN(3)
		l = append(l, api.Tri{to[t[by]], to[t[(by+1)%3]], to[t[(by+2)%3]]})
	}
	r.Shuffle(len(l), func(i, j int) { l[i], l[j] = l[j], l[i] })
	return moved, l
}

// grown makes all coordinates 2^k times as large.
func grown(points []api.Point, k int) []api.Point {
	l := make([]api.Point, len(points))
	for i, p := range points {
		l[i] = at(math.Ldexp(p.X, k), math.Ldexp(p.Y, k))
	}
	return l
}

// drawnFixes are edges, many or few, some of which are there.
func drawnFixes(r *rand.Rand, n int, tris []api.Tri) [][2]int {
	var l [][2]int
	for range r.IntN(1+len(tris)/2) * r.IntN(2) {
		c := tris[r.IntN(len(tris))]
		l = append(l, [2]int{c[0], c[1]})
		if a, b := r.IntN(n), r.IntN(n); a != b {
			l = append(l, [2]int{a, b})
		}
	}
	return l
}

// drawnPair is a mesh that covers a square, or less than that, with holes and in
// parts; often much greater, or much smaller.
func drawnPair(t *testing.T, r *rand.Rand, n int) pair {
	t.Helper()
	points, tris := split(r, 4+r.IntN(n*n))
	if r.IntN(3) == 0 {
		points, tris = jittered(r, 2+r.IntN(n), 2+r.IntN(n))
	}
	points, tris = shuffled(r, points, tris)
	if r.IntN(3) == 0 {
		tris = tris[:r.IntN(len(tris)+1)]
	}
	if r.IntN(3) == 0 {
		points = grown(points, r.IntN(140)-50)
	}
	return made(t, points, tris, drawnFixes(r, len(points), tris)...)
}

// drawnPile is a mesh of few points, some of them alike, and triangles that lie
// upon one another.
func drawnPile(t *testing.T, r *rand.Rand, n int) pair {
	t.Helper()
	var points []api.Point
	for range 3 + r.IntN(n) {
		p := at(float64(r.IntN(5)), float64(r.IntN(5)))
		if r.IntN(2) == 0 {
			p = at(r.Float64()*4, r.Float64()*4)
		}
		points = append(points, p)
	}
	x := made(t, points, nil)
	for range r.IntN(10 * len(points)) {
		x.m.Make(r.IntN(len(points)), r.IntN(len(points)), r.IntN(len(points)))
	}
	tris := x.m.Tris()
	return made(t, points, tris, drawnFixes(r, len(points), tris)...)
}

// drawnPairs are meshes of both kinds, and whether no two triangles of them lie upon
// one another.
func drawnPairs(t *testing.T, r *rand.Rand, i, n int) (pair, bool) {
	t.Helper()
	if i%3 == 0 {
		return drawnPile(t, r, n*n/2), false
	}
	return drawnPair(t, r, n), true
}

// drawnList are some edges of a mesh, or all, or one, or none; in some lists an edge
// stands twice, and pairs that are no edge, and numbers of no point.
func drawnList(r *rand.Rand, w *model) [][2]int {
	l := w.edges()
	r.Shuffle(len(l), func(i, j int) { l[i], l[j] = l[j], l[i] })
	switch r.IntN(4) {
	case 0:
		l = l[:min(len(l), r.IntN(3))]
	case 1:
		l = l[:r.IntN(len(l)+1)]
	}
	if r.IntN(2) == 0 {
		odd := oddNumbers(len(w.points))
		for range r.IntN(6) {
			l = append(l, [2]int{odd[r.IntN(len(odd))], r.IntN(len(w.points))}, [2]int{r.IntN(len(w.points)), r.IntN(len(w.points))})
		}
		for _, e := range l {
			switch r.IntN(4) {
			case 0:
				l = append(l, e)
			case 1:
				l = append(l, [2]int{e[1], e[0]})
			}
		}
		r.Shuffle(len(l), func(i, j int) { l[i], l[j] = l[j], l[i] })
	}
	return l
}

// Drawn meshes: each pair of numbers is asked about, each edge is turned, and turned
// again.
func TestDrawnEdges(t *testing.T) {
	r := rand.New(rand.NewPCG(17, 1))
	turned, orderly, disorderly := 0, 0, 0
	for i := range 300 {
		x, _ := drawnPairs(t, r, i, 2+i%4)
		before := told(x.m)
		x.allAsked(t)
		for _, e := range x.w.edges() {
			back := x.turns(t, e[0], e[1])
			if back {
				turned++
			}
			if !x.w.inOrder(e[0], e[1]) {
				disorderly++
			} else if back {
				orderly++
			}
			x.turns(t, e[1], e[0])
		}
		x.turns(t, r.IntN(len(x.w.points)), r.IntN(len(x.w.points)))
		if !told(x.m).same(before) {
			t.Fatal("the mesh is another one")
		}
	}
	if turned < 1000 || orderly < 300 || disorderly < 300 {
		t.Error("too few edges:", turned, orderly, disorderly)
	}
}

// Drawn meshes of few triangles and of many: Settle of all edges, of some, of one, of
// none; and All.
func TestDrawnSettled(t *testing.T) {
	r := rand.New(rand.NewPCG(17, 2))
	turned, none := 0, 0
	for i := range 400 {
		x, sideBySide := drawnPairs(t, r, i, 2+i%9)
		_, n := x.settled(t, nil, true, sideBySide)
		turned += n
		for range 3 {
			y, n := x.settled(t, drawnList(r, x.w), false, sideBySide)
			y.settled(t, drawnList(r, y.w), false, sideBySide)
			turned += n
			if n == 0 {
				none++
			}
		}
	}
	if turned < 10000 || none < 100 {
		t.Error("too few were turned, or none too seldom:", turned, none)
	}
}

// Of small meshes all that may come of settling is looked for, whichever edge is
// turned first: which triangles, and of how many edges that are turned.
func TestDrawnEnds(t *testing.T) {
	r := rand.New(rand.NewPCG(17, 3))
	looked, several, most := 0, 0, 0
	for i := range 500 {
		x, _ := drawnPairs(t, r, i, 3)
		l := drawnList(r, x.w)
		ends, whole := x.w.ends(l)
		if !whole {
			continue
		}
		n := x.settles(t, l)
		if ends[fmt.Sprint(x.m.Tris(), n)] == 0 {
			t.Fatalf("Settle of %v of %v: %d, and %v; want one of %v", l, x.w.tris, n, x.m.Tris(), ends)
		}
		looked++
		if len(ends) > 1 {
			several++
		}
		most = max(most, n)
	}
	if looked < 400 || several < 20 || most < 6 {
		t.Error("too few ends:", looked, several, most)
	}
}

// A mesh of very many triangles: if each turn took a look at all of it, it would take
// far too long. Behind All, all edges are in order; and behind Settle of one that was
// turned since, and of those around it.
func TestVeryMany(t *testing.T) {
	r := rand.New(rand.NewPCG(17, 4))
	points, tris := jittered(r, 250, 250)
	x := made(t, points, nil)
	for _, c := range tris {
		x.m.Make(c[0], c[1], c[2])
	}
	border := x.m.Border()
	if n, e := flip.All(x.m); n < 5000 || n > len(points)*len(points) || e != api.OK {
		t.Error("All:", n, e)
	}
	if x.m.Count() != len(tris) || !slices.Equal(x.m.Border(), border) {
		t.Error("other triangles, or another border:", x.m.Count())
	}
	x.inOrder(t)
	edges := x.m.Edges()
	turned := 0
	for range 5000 {
		e := edges[r.IntN(len(edges))]
		c, _ := x.m.Apex(e[0], e[1])
		d, _ := x.m.Apex(e[1], e[0])
		if flip.Turn(x.m, e[0], e[1]) == api.OK {
			x.settles(t, [][2]int{{c, d}, {e[0], c}, {c, e[1]}, {e[1], d}, {d, e[0]}})
			turned++
		}
	}
	if turned < 3000 {
		t.Error("too few could be turned:", turned)
	}
	x.inOrder(t)
}

// inOrder wants all edges of a mesh to be so.
func (x pair) inOrder(t *testing.T) {
	t.Helper()
	for _, e := range x.m.Edges() {
		if !flip.Delaunay(x.m, e[0], e[1]) || !flip.Delaunay(x.m, e[1], e[0]) {
			t.Fatal("not in order:", e)
		}
	}
	if n, e := flip.All(x.m); n != 0 || e != api.OK {
		t.Fatal("All, where all are in order:", n, e)
	}
}
