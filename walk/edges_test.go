package walk_test

import (
	"math"
	"math/rand/v2"
	"slices"
	"testing"

	"trivet/api"
	"trivet/mesh"
	"trivet/walk"
)

var outside = walk.Place{Kind: api.Outside}

// A mesh without points, and one of points alone: none of them is a corner.
func TestNoTriangles(t *testing.T) {
	none := made(t, nil, nil)
	none.same(t, at(0, 0), outside)
	bare := made(t, []api.Point{at(0, 0), at(2, 0), at(0, 2), at(1, 1), at(0, 0)}, nil)
	for _, p := range append(bare.w.points, at(0.5, 0.5), at(1, 0), at(9, 9)) {
		bare.same(t, p, outside)
	}
	bare.allAsked(t)
	bare.inTheWay(t, 1, 2, nil, nil)
	bare.m.Fix(0, 3, 1)
	bare.m.Fix(1, 2, 1)
	bare.same(t, at(0.5, 0.5), outside)
	bare.inTheWay(t, 0, 3, nil, nil)
}

// Edges that were there, and corners that were some, are so no more.
func TestGone(t *testing.T) {
	x := square(t)
	x.m.Kill(1, 3, 2)
	gone := pair{x.m, modelOf(x.w.points, x.m.Tris())}
	gone.same(t, at(2, 2), outside)
	gone.same(t, at(1, 2), outside)
	gone.same(t, at(1.5, 1.5), outside)
	gone.same(t, at(1, 1), walk.Place{Kind: api.OnEdge, A: 1, B: 2})
	gone.inTheWay(t, 0, 3, [][2]int{{1, 2}}, nil)
	x.m.Kill(0, 1, 2)
	gone.same(t, at(1, 1), outside)
	gone.inTheWay(t, 0, 3, nil, nil)
}

// Parts far from one another, a great one and two small ones, of one triangle each:
// whatever the seed, the walk comes to the small ones, too.
func TestParts(t *testing.T) {
	points, tris := jittered(rand.New(rand.NewPCG(16, 4)), 20, 20)
	n := len(points)
	points = append(points, at(900, 900), at(906, 900), at(900, 906), at(-906, 3), at(-900, 0), at(-900, 6), at(-903, 3))
	tris = append(tris, api.Tri{n + 1, n + 2, n}, api.Tri{n + 3, n + 4, n + 5})
	x := made(t, points, tris)
	for _, y := range []struct {
		p    api.Point
		want walk.Place
	}{
		{at(900, 900), walk.Place{Kind: api.OnPoint, A: n}},
		{at(903, 903), walk.Place{Kind: api.OnEdge, A: n + 1, B: n + 2}},
		{at(901, 901), walk.Place{Kind: api.Inside, A: n, B: n + 1, C: n + 2}},
		{at(-902, 3), walk.Place{Kind: api.Inside, A: n + 3, B: n + 4, C: n + 5}},
		{at(-900, 1), walk.Place{Kind: api.OnEdge, A: n + 4, B: n + 5}},
		{at(-906, 3), walk.Place{Kind: api.OnPoint, A: n + 3}},
		{at(0, 500), outside}, {at(904, 904), outside}, {at(-500, 3), outside},
	} {
		x.same(t, y.p, y.want)
	}
	for _, p := range points[:40] {
		x.found(t, p, seeds...)
	}
	x.inTheWay(t, n+3, n+6, nil, nil)
	x.asked(t, n, n+3)
	x.asked(t, n+1, 0)
	x.asked(t, n+6, 399)
}

// frame has a hole in its middle, and triangles around it.
func frame(t *testing.T) pair {
	t.Helper()
	return made(t, []api.Point{at(0, 0), at(9, 0), at(9, 9), at(0, 9), at(3, 3), at(6, 3), at(6, 6), at(3, 6), at(4, 4), at(-2, -2)}, []api.Tri{
		{0, 1, 4}, {1, 5, 4}, {1, 2, 5}, {2, 6, 5}, {2, 3, 6}, {3, 7, 6}, {3, 0, 7}, {0, 4, 7}})
}

// A hole is Outside, its edges and corners are not; what lies behind it is found.
func TestHole(t *testing.T) {
	x := frame(t)
	for _, p := range []api.Point{at(4, 4), at(5, 5), at(4.5, 4.5), at(3.5, 5), at(4, 3+0x1p-50), at(3+0x1p-50, 4)} {
		x.same(t, p, outside)
	}
	x.same(t, at(4, 3), walk.Place{Kind: api.OnEdge, A: 4, B: 5})
	x.same(t, at(6, 5), walk.Place{Kind: api.OnEdge, A: 5, B: 6})
	x.same(t, at(6, 6), walk.Place{Kind: api.OnPoint, A: 6})
	x.same(t, at(5.5, 2.5), walk.Place{Kind: api.Inside, A: 1, B: 5, C: 4})
	for column := range 19 {
		for row := range 19 {
			x.found(t, at(float64(column)/2, float64(row)/2), seeds...)
		}
	}
	x.inTheWay(t, 0, 2, nil, []int{4, 6})
	x.inTheWay(t, 2, 0, nil, []int{6, 4})
	x.inTheWay(t, 2, 9, nil, []int{6, 4, 0})
	x.inTheWay(t, 5, 7, nil, nil)
	x.inTheWay(t, 9, 8, nil, []int{0, 4})
	x.allAsked(t)
}

// A mesh that is not convex: a comb, between whose teeth the walk finds no way.
func TestComb(t *testing.T) {
	const teeth = 12
	var points []api.Point
	var tris []api.Tri
	for i := range teeth {
		left := float64(6 * i)
		points = append(points, at(left, 0), at(left+3, 0), at(left, 1), at(left+3, 1), at(left+1, 99))
		a := 5 * i
		tris = append(tris, api.Tri{a, a + 1, a + 2}, api.Tri{a + 1, a + 3, a + 2}, api.Tri{a + 2, a + 3, a + 4})
		if i > 0 {
			tris = append(tris, api.Tri{a - 4, a, a - 2}, api.Tri{a, a + 2, a - 2})
		}
	}
	x := made(t, points, tris)
	for i := range teeth {
		a, left := 5*i, float64(6*i)
		x.same(t, at(left+1, 98), walk.Place{Kind: api.Inside, A: a + 2, B: a + 3, C: a + 4})
		x.same(t, at(left+0.5, 50), walk.Place{Kind: api.OnEdge, A: a + 2, B: a + 4})
		x.same(t, at(left+1, 99), walk.Place{Kind: api.OnPoint, A: a + 4})
		x.same(t, at(left+4, 50), outside)
		x.same(t, at(left+5, 1+0x1p-50), outside)
		x.asked(t, 4, a+4)
		x.asked(t, 2, a+3)
		x.asked(t, a, 59)
	}
}

// Points alike a corner that are no corner themselves: the corner is told. Of
// corners that are alike, one is, and all of them stand in the way.
func TestAlike(t *testing.T) {
	minus := math.Copysign(0, -1)
	points := []api.Point{at(0, 0), at(2, 2), at(minus, 0), at(4, 0), at(0, 4), at(2, 2), at(4, 4), at(2, 2), at(4, 0), at(4, minus), at(4, 4)}
	x := made(t, points, []api.Tri{{2, 3, 4}, {3, 6, 5}})
	x.same(t, at(0, 0), walk.Place{Kind: api.OnPoint, A: 2})
	x.same(t, at(4, 4), walk.Place{Kind: api.OnPoint, A: 6})
	x.same(t, at(4, 0), walk.Place{Kind: api.OnPoint, A: 3})
	x.inTheWay(t, 0, 10, [][2]int{{3, 4}}, []int{5})
	x.inTheWay(t, 2, 6, [][2]int{{3, 4}}, []int{5})
	x.allAsked(t)
	if l := x.found(t, at(2, 2), seeds...); len(l) != 2 {
		t.Error("a corner, and on an edge:", l)
	}
	for _, tris := range [][]api.Tri{
		{{2, 3, 4}, {0, 8, 4}},
		{{2, 3, 4}, {0, 9, 5}, {3, 6, 7}},
		{{0, 3, 4}, {8, 6, 7}, {9, 10, 5}, {2, 8, 1}},
	} {
		x := made(t, points, tris)
		for _, p := range append(slices.Clone(points), at(1, 0), at(1, 1), at(3, 1), at(3, 3), at(2.5, 1)) {
			x.found(t, p, seeds...)
		}
		x.allAsked(t)
	}
	x = made(t, points, []api.Tri{{0, 3, 7}, {3, 6, 1}, {5, 6, 4}})
	x.inTheWay(t, 2, 10, nil, []int{1, 5, 7})
	x.inTheWay(t, 10, 2, nil, []int{1, 5, 7})
}

// Triangles that lie upon one another: one within the other, the same ground twice,
// edges that cross.
func TestUponOneAnother(t *testing.T) {
	points := []api.Point{at(0, 0), at(12, 0), at(0, 12), at(3, 3), at(5, 3), at(3, 5), at(0, 0), at(12, 0), at(0, 12), at(12, 12), at(-3, 4), at(9, 4)}
	for _, tris := range [][]api.Tri{
		{{0, 1, 2}, {3, 4, 5}},
		{{3, 4, 5}, {0, 1, 2}},
		{{0, 1, 2}, {6, 7, 8}},
		{{0, 1, 2}, {6, 7, 8}, {3, 4, 5}, {1, 9, 2}},
		{{0, 1, 2}, {10, 4, 11}, {11, 5, 10}, {6, 1, 9}},
	} {
		x := made(t, points, tris)
		several := 0
		for column := range 27 {
			for row := range 27 {
				several += len(x.found(t, at(float64(column)/2, float64(row)/2), seeds...)) - 1
			}
		}
		if several < 3 {
			t.Error("too few places upon one another:", tris, several)
		}
		x.allAsked(t)
	}
}

// Points on border edges, in line with them beyond their ends, and just beside them.
func TestNearEdges(t *testing.T) {
	x := made(t, []api.Point{at(0, 0), at(3, 1), at(0, 2)}, []api.Tri{{0, 1, 2}})
	x.same(t, at(1.5, 0.5), walk.Place{Kind: api.OnEdge, A: 0, B: 1})
	x.same(t, at(1.5, 0.5+0x1p-53), walk.Place{Kind: api.Inside, A: 0, B: 1, C: 2})
	x.same(t, at(1.5, 0.5-0x1p-54), outside)
	x.same(t, at(1.5, 1.5), walk.Place{Kind: api.OnEdge, A: 1, B: 2})
	x.same(t, at(0, 1), walk.Place{Kind: api.OnEdge, A: 0, B: 2})
	x.same(t, at(-0x1p-100, 1), outside)
	x.same(t, at(0x1p-100, 1), walk.Place{Kind: api.Inside, A: 0, B: 1, C: 2})
	for _, p := range []api.Point{at(6, 2), at(-3, -1), at(0, 3), at(0, -1), at(-3, 3), at(6, 0), at(0, 2+0x1p-51), at(0, -0x1p-100), at(3+0x1p-51, 1)} {
		x.same(t, p, outside)
	}
}

// A point so near to a long edge that what floats tell of it is wrong, or nothing.
func TestBeside(t *testing.T) {
	for _, y := range []struct{ a, b api.Point }{
		{at(0.5, 0.5), at(24, 24)}, {at(-0x1p100, -0x1p100), at(0x1p100, 0x1p100)}, {at(0.1, 0.1), at(0x1p60, 0x1p60)},
	} {
		up, down := at(y.a.X, y.b.Y), at(y.b.X, y.a.Y)
		x := made(t, []api.Point{y.a, y.b, up, down}, []api.Tri{{0, 1, 2}, {1, 0, 3}})
		for _, c := range []float64{0.75, 1, 12, math.Nextafter(12, 0), 0x1p-3 + 0.5, 17.25, 0.5 + 0x1p-48} {
			above := math.Nextafter(c, math.Inf(1))
			x.same(t, at(c, c), walk.Place{Kind: api.OnEdge, A: 0, B: 1})
			x.same(t, at(c, above), walk.Place{Kind: api.Inside, A: 0, B: 1, C: 2})
			x.same(t, at(above, c), walk.Place{Kind: api.Inside, A: 0, B: 3, C: 1})
		}
	}
	thin := made(t, []api.Point{at(0, 0), at(2, 0), at(1, 0x1p-100), at(1, 1)}, []api.Tri{{0, 1, 2}, {0, 2, 3}, {2, 1, 3}})
	thin.same(t, at(1, 0), walk.Place{Kind: api.OnEdge, A: 0, B: 1})
	thin.same(t, at(1, 0x1p-99), walk.Place{Kind: api.OnEdge, A: 2, B: 3})
	thin.same(t, at(0.5, 0x1p-100), walk.Place{Kind: api.Inside, A: 0, B: 2, C: 3})
	thin.same(t, at(1.5, 0), walk.Place{Kind: api.OnEdge, A: 0, B: 1})
	thin.same(t, at(1, -0x1p-100), outside)
	thin.inTheWay(t, 0, 1, nil, nil)
}

// The greatest and the least steps in one mesh.
func TestGreatAndSmall(t *testing.T) {
	const most, step = 0x1p100, 0x1p-100
	points := []api.Point{at(-most, -most), at(most, -most), at(most, most), at(-most, most), at(0, 0), at(step, 0), at(0, step), at(0.5, 0.5), at(-step, -step)}
	x := made(t, points, []api.Tri{{4, 5, 6}, {0, 1, 5}, {5, 1, 2}, {5, 2, 6}, {6, 2, 3}, {6, 3, 0}, {0, 4, 6}, {0, 5, 4}})
	for i, want := range map[int]walk.Place{
		2: {Kind: api.OnPoint, A: 2}, 4: {Kind: api.OnPoint, A: 4}, 5: {Kind: api.OnPoint, A: 5}, 6: {Kind: api.OnPoint, A: 6},
		7: {Kind: api.Inside, A: 2, B: 6, C: 5}, 8: {Kind: api.OnEdge, A: 0, B: 4},
	} {
		x.same(t, points[i], want)
	}
	for _, p := range []api.Point{at(step, step), at(2*step, 0), at(most, 0), at(-most, -step), at(0, most), at(0.5, 0), at(0.5, step), at(step, 0.5)} {
		if l := x.found(t, p, seeds...); len(l) != 1 {
			t.Error(p, l)
		}
	}
	x.inTheWay(t, 4, 2, [][2]int{{5, 6}}, nil)
	x.inTheWay(t, 0, 2, [][2]int{{5, 6}}, []int{4})
	x.inTheWay(t, 8, 7, [][2]int{{5, 6}}, []int{4})
	x.inTheWay(t, 1, 3, [][2]int{{0, 5}, {0, 6}}, []int{4})
	x.allAsked(t)
}

// From a point to itself, and to one that is alike: nothing is in the way, though a
// corner is there, or an edge.
func TestNoWay(t *testing.T) {
	x := made(t, []api.Point{at(0, 0), at(4, 0), at(0, 4), at(1, 1), at(1, 1), at(2, 2), at(2, 2), at(2, 2), at(0, 0)}, []api.Tri{{0, 1, 2}, {3, 1, 5}, {8, 1, 6}})
	for a := range x.w.points {
		x.inTheWay(t, a, a, nil, nil)
	}
	for _, e := range [][2]int{{3, 4}, {5, 6}, {6, 7}, {7, 5}, {0, 8}} {
		x.inTheWay(t, e[0], e[1], nil, nil)
		x.inTheWay(t, e[1], e[0], nil, nil)
	}
	x.allAsked(t)
}

// Ways along edges, over corners, to edges that they only touch, and from points
// that are no corner.
func TestWays(t *testing.T) {
	var points []api.Point
	var tris []api.Tri
	for i := range 25 {
		points = append(points, at(float64(i%5), float64(i/5)))
		if i%5 < 4 && i/5 < 4 {
			tris = append(tris, api.Tri{i, i + 1, i + 5}, api.Tri{i + 6, i + 5, i + 1})
		}
	}
	points = append(points, at(-2, 0), at(1, 0.5), at(3, 0.5), at(2.5, 3), at(9, 3), at(2, 2))
	x := made(t, points, tris)
	x.inTheWay(t, 0, 4, nil, []int{1, 2, 3})
	x.inTheWay(t, 4, 25, nil, []int{3, 2, 1, 0})
	x.inTheWay(t, 4, 20, nil, []int{8, 12, 16})
	x.inTheWay(t, 8, 16, nil, []int{12})
	x.inTheWay(t, 0, 24, [][2]int{{1, 5}, {7, 11}, {13, 17}, {19, 23}}, []int{6, 12, 18})
	x.inTheWay(t, 24, 0, [][2]int{{1, 5}, {7, 11}, {13, 17}, {19, 23}}, []int{18, 12, 6})
	x.inTheWay(t, 26, 27, [][2]int{{2, 6}, {2, 7}, {3, 7}}, nil)
	x.inTheWay(t, 0, 7, [][2]int{{1, 5}, {1, 6}, {2, 6}}, nil)
	x.inTheWay(t, 28, 29, nil, []int{18, 19})
	x.inTheWay(t, 15, 28, nil, []int{16, 17})
	x.inTheWay(t, 7, 30, nil, nil)
	x.inTheWay(t, 0, 30, [][2]int{{1, 5}, {7, 11}}, []int{6})
	x.inTheWay(t, 1, 5, nil, nil)
	x.inTheWay(t, 21, 3, [][2]int{{7, 8}, {16, 17}}, []int{12})
	x.allAsked(t)
}

// ring is a twisted ring of triangles, twice as many as its sectors, that goes
// around its middle so often.
func ring(t *testing.T, sectors, turns int) pair {
	t.Helper()
	n := sectors * turns
	points := make([]api.Point, 2*n)
	var tris []api.Tri
	for i := range n {
		angle := 2 * math.Pi * float64(i) / float64(sectors)
		on := func(radius, angle float64) api.Point {
			return at(math.Round(radius*math.Cos(angle)), math.Round(radius*math.Sin(angle)))
		}
		points[i] = on(1<<30, angle)
		points[n+i] = on(1<<29, angle-math.Pi/float64(sectors))
		next := (i + 1) % n
		tris = append(tris, api.Tri{n + i, i, next}, api.Tri{n + i, next, n + next})
	}
	return made(t, points, tris)
}

// A ring in which the one way that leads on from each triangle leads around for
// ever, as long as its middle is looked for.
func TestRing(t *testing.T) {
	for _, sectors := range []int{8, 9, 64} {
		for turns := range 3 {
			x := ring(t, sectors, turns+1)
			middle := spotOf(at(0, 0))
			for _, c := range x.w.tris {
				on := 0
				for i := range 3 {
					_, shared := x.m.Apex(c[(i+1)%3], c[i])
					if shared && leftOf(x.w.spots[c[(i+1)%3]], x.w.spots[c[i]], middle) {
						on++
					}
				}
				if on != 1 {
					t.Error("ways that lead on from", c, on)
				}
			}
			x.same(t, at(0, 0), outside)
			x.same(t, at(-7, 3), outside)
			for _, p := range x.w.points[:4] {
				if l := x.found(t, p, seeds...); len(l) < turns+1 {
					t.Error("places of", p, l)
				}
				x.found(t, at(p.X/2, p.Y/2), seeds...)
				x.found(t, at(p.X*0.75, p.Y*0.75), seeds...)
				x.found(t, at(p.X*0.875+1, p.Y*0.75-1), seeds...)
			}
		}
	}
}

// P1: Find comes to an end for rings of many triangles, too, and for one that goes
// around very often.
func TestEnds(t *testing.T) {
	for _, x := range []pair{ring(t, 20000, 1), ring(t, 8, 3000)} {
		for _, seed := range seeds {
			if got, e := walk.Find(x.m, at(5, -5), seed); got != outside || e != api.OK {
				t.Error("Find:", got, e)
			}
		}
	}
}

// Many points, hardly any of which is a corner.
func TestMostlyLoose(t *testing.T) {
	points := []api.Point{}
	for i := range 5000 {
		points = append(points, at(float64(i%70), float64(i/70)))
	}
	points = append(points, at(0, 0), at(70, 0), at(0, 70))
	m, e := mesh.Of(points, []api.Tri{{5000, 5001, 5002}})
	if e != api.OK {
		t.Fatal(e)
	}
	x := pair{m, nil}
	x.same(t, at(7, 7), walk.Place{Kind: api.Inside, A: 5000, B: 5001, C: 5002})
	x.same(t, at(0, 0), walk.Place{Kind: api.OnPoint, A: 5000})
	x.same(t, at(69, 69), outside)
	x.inTheWay(t, 0, 69, nil, nil)
	x.inTheWay(t, 5000, 4000, nil, nil)
	x.inTheWay(t, 0, 71, nil, nil)
	x.inTheWay(t, 71*35, 71*40, nil, nil)
	x.inTheWay(t, 71*30, 71*40, [][2]int{{5001, 5002}}, nil)
}
