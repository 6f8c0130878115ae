package flip_test

import (
	"math"
	"math/rand/v2"
	"slices"
	"testing"

	"trivet/api"
	"trivet/flip"
	"trivet/mesh"
)

// A mesh without points, and one of points alone, some edges of which are fixed.
func TestNoTriangles(t *testing.T) {
	none := made(t, nil, nil)
	none.allAsked(t)
	none.all(t, 0)
	none.settle(t, 0)
	none.settle(t, 0, [2]int{0, 1}, [2]int{0, 0})
	bare := made(t, []api.Point{at(0, 0), at(9, 0), at(9, 9), at(1, 2), at(0, 0)}, nil, [2]int{0, 2}, [2]int{1, 3})
	bare.allAsked(t)
	bare.says(t, 0, 2, true, false)
	bare.turn(t, 0, 2, api.ErrNone)
	bare.all(t, 0)
	bare.settle(t, 0, [2]int{0, 2}, [2]int{1, 3}, [2]int{0, 4})
	bare.has(t)
}

// An edge that is there in one direction alone: a triangle by itself, and one whose
// neighbour has gone.
func TestOneDirection(t *testing.T) {
	x := crooked(t)
	x.m.Kill(0, 2, 3)
	x.w = x.w.with(x.m.Tris())
	x.allAsked(t)
	for _, e := range [][2]int{{0, 1}, {1, 2}, {0, 2}} {
		x.says(t, e[0], e[1], true, false)
		x.turn(t, e[0], e[1], api.ErrNone)
		x.turn(t, e[1], e[0], api.ErrNone)
	}
	x.all(t, 0)
	x.settle(t, 0, [2]int{0, 2}, [2]int{2, 0})
	x.has(t, api.Tri{0, 1, 2})
}

// Fixed edges: one that is there is in order, and not turned, whatever its marker,
// until it is loose; one that is not there hinders nothing, though it is the one that
// would come: it is fixed when it has.
func TestFixed(t *testing.T) {
	x := crooked(t, [2]int{2, 0})
	x.w.fixes = map[[2]int]bool{{0, 2}: true}
	for _, mark := range []int{0, 1, -1, math.MinInt, math.MaxInt} {
		x.m.Fix(2, 0, mark)
		x.says(t, 0, 2, true, false)
		x.turn(t, 0, 2, api.ErrMesh)
		x.all(t, 0)
		x.settle(t, 0, [2]int{0, 2}, [2]int{2, 0})
	}
	x.m.Fix(1, 3, 77)
	x.m.Loose(0, 2)
	x.w.fixes = map[[2]int]bool{{1, 3}: true}
	x.says(t, 0, 2, false, true)
	x.says(t, 1, 3, true, false)
	x.all(t, 1)
	x.has(t, api.Tri{0, 1, 3}, api.Tri{1, 2, 3})
	if mark, fixed := x.m.Fixed(3, 1); mark != 77 || !fixed {
		t.Error("Fixed:", mark, fixed)
	}
	x.turn(t, 1, 3, api.ErrMesh)
	if _, fixed := x.m.Fixed(0, 2); fixed {
		t.Error("what was loose is fixed")
	}
	x.m.Loose(1, 3)
	x.turn(t, 1, 3, api.OK)
	x.has(t, api.Tri{0, 1, 2}, api.Tri{0, 2, 3})
}

// four is a mesh of two triangles, a b c and a c d.
func four(t *testing.T, a, b, c, d api.Point) pair {
	t.Helper()
	return made(t, []api.Point{a, b, c, d}, []api.Tri{{0, 1, 2}, {0, 2, 3}})
}

// Four points on a circle: the edge is in order, and so is the other one, and it may
// be turned all the same. Where one of them is a step within, one edge is not.
func TestOnOneCircle(t *testing.T) {
	for _, scale := range []float64{1, 0x1p-100, 0x1p-37, 0x1p60, 0x1p92} {
		on := func(x, y float64) api.Point { return at(x*scale, y*scale) }
		ring := []api.Point{on(65, 0), on(63, 16), on(60, 25), on(16, 63), on(0, 65), on(-33, 56), on(-65, 0), on(-39, -52), on(0, -65), on(52, -39)}
		for i := range ring {
			for j := range i {
				for k := range j {
					if i == len(ring)-1 && k == 0 {
						continue
					}
					x := four(t, ring[k], ring[j], ring[i], ring[(i+1)%len(ring)])
					x.says(t, 0, 2, true, true)
					x.all(t, 0)
					x.settle(t, 0, [2]int{0, 2})
					x.turn(t, 0, 2, api.OK)
					x.all(t, 0)
					x.has(t, api.Tri{0, 1, 3}, api.Tri{1, 2, 3})
				}
			}
		}
	}
}

// Points so near to a circle that floats don't tell.
func TestNearACircle(t *testing.T) {
	near := []struct {
		d      api.Point
		within bool
	}{
		{at(0, 1), false}, {at(-0x1p-100, 1), false}, {at(0x1p-100, 1), true},
		{at(0, 1+0x1p-52), false}, {at(0, 1-0x1p-53), true},
		{at(0x1p-100, 1+0x1p-52), false}, {at(-0x1p-100, 1-0x1p-53), true},
	}
	for _, y := range near {
		x := four(t, at(0, 0), at(1, 0), at(1, 1), y.d)
		x.says(t, 0, 2, !y.within, x.w.may(0, 2))
		_, n := x.settled(t, nil, true, true)
		if (n == 1) != y.within {
			t.Error("turned:", y.d, n)
		}
	}
	r := rand.New(rand.NewPCG(17, 10))
	within := 0
	for range 1500 {
		var l [4]api.Point
		turn := r.Float64()
		for i := range l {
			sin, cos := math.Sincos(2 * math.Pi * (turn + (float64(i)+0.8*r.Float64())/4))
			l[i] = at(math.Trunc((3+cos)*0x1p50)*0x1p-50, math.Trunc((5+sin)*0x1p50)*0x1p-50)
		}
		x := four(t, l[0], l[1], l[2], l[3])
		x.asked(t, 0, 2)
		y, n := x.settled(t, [][2]int{{2, 0}}, false, true)
		y.allAsked(t)
		within += n
	}
	if within < 500 || within > 1000 {
		t.Error("too few within, or outside:", within)
	}
}

// Four corners that are not convex, and three of them on one line, on either side:
// the edge may not be turned, so it is in order.
func TestNotConvex(t *testing.T) {
	a, c := at(0, 0), at(0, 10)
	for _, y := range []struct {
		b, d api.Point
		may  bool
	}{
		{at(1, -1), at(-9, 10), true}, {at(1, 5), at(-9, 5), true}, {at(1, -1), at(-9, 5), false},
		{at(1, -9), at(-9, 5), false}, {at(9, 5), at(-1, -9), false},
		{at(1, 19), at(-9, 5), false}, {at(9, 5), at(-1, 19), false},
		{at(1, -1), at(-1, 1), false}, {at(2, -2), at(-2, 2), false}, {at(2, 8), at(-2, 12), false}, {at(2, 12), at(-2, 8), false},
		{at(1, -1), at(-1, 1+0x1p-52), true}, {at(1, -1), at(-1, 1-0x1p-53), false},
		{at(1, 11), at(-1, 9-0x1p-49), true}, {at(1, 11), at(-1, 9+0x1p-49), false},
		{at(0x1p-100, -0x1p-100), at(-1, 2), true}, {at(0x1p-100, -0x1p-100), at(-1, 1), false},
	} {
		x := four(t, a, y.b, c, y.d)
		x.says(t, 0, 2, x.w.inOrder(0, 2), y.may)
		x.allAsked(t)
		before := told(x.m)
		if y.may {
			x.turns(t, 0, 2)
			continue
		}
		x.says(t, 0, 2, true, false)
		x.turn(t, 0, 2, api.ErrMesh)
		x.turn(t, 2, 0, api.ErrMesh)
		x.all(t, 0)
		x.settle(t, 0, [2]int{2, 0})
		if !told(x.m).same(before) {
			t.Error("the mesh is another one")
		}
	}
}

// inTheWay are two triangles whose shared edge, {0, 1}, is not locally Delaunay, and
// others upon them, that have the edge that would come, {2, 3}.
func inTheWay(t *testing.T, more ...api.Tri) pair {
	t.Helper()
	points := []api.Point{at(0, 0), at(10, 0), at(5, 1), at(5, -1), at(20, 0), at(-20, 0), at(5.125, 0), at(4.875, 0)}
	return made(t, points, append([]api.Tri{{0, 1, 2}, {1, 0, 3}}, more...))
}

// An edge {c, d} that is there already, in one direction or in both: the edge may not
// be turned, and is in order.
func TestThereAlready(t *testing.T) {
	free := inTheWay(t)
	free.says(t, 0, 1, false, true)
	free.all(t, 1)
	for _, more := range [][]api.Tri{{{2, 3, 4}}, {{3, 2, 5}}, {{2, 3, 4}, {3, 2, 5}}} {
		x := inTheWay(t, more...)
		x.says(t, 0, 1, true, false)
		x.allAsked(t)
		before := told(x.m)
		x.turn(t, 0, 1, api.ErrMesh)
		x.turn(t, 1, 0, api.ErrMesh)
		x.all(t, 0)
		x.settle(t, 0, [2]int{0, 1}, [2]int{3, 2}, [2]int{1, 0})
		if !told(x.m).same(before) {
			t.Error("the mesh is another one")
		}
		for _, c := range more {
			x.m.Kill(c[0], c[1], c[2])
		}
		x.w = x.w.with(x.m.Tris())
		x.says(t, 0, 1, false, true)
		x.all(t, 1)
		x.has(t, api.Tri{0, 3, 2}, api.Tri{1, 2, 3})
	}
}

// What stands in the way is turned itself: behind that the edge is not in order any
// more, and is turned, too, if the list has it, wherever it stands there.
func TestNoMoreInTheWay(t *testing.T) {
	upon := []api.Tri{{2, 3, 6}, {3, 2, 7}}
	behind := []api.Tri{{0, 3, 2}, {1, 2, 3}, {2, 7, 6}, {3, 6, 7}}
	x := inTheWay(t, upon...)
	x.says(t, 0, 1, true, false)
	x.says(t, 2, 3, false, true)
	x.settle(t, 0, [2]int{0, 1})
	for _, l := range [][][2]int{
		{{0, 1}, {2, 3}}, {{2, 3}, {0, 1}}, {{3, 2}, {1, 0}}, {{1, 0}, {2, 3}, {0, 1}, {0, 1}}, {{0, 1}, {0, 1}, {2, 3}, {3, 2}},
	} {
		y := x.copy()
		y.settle(t, 2, l...)
		y.has(t, behind...)
	}
	y := x.copy()
	y.all(t, 2)
	y.has(t, behind...)
	z := x.copy()
	z.settle(t, 1, [2]int{2, 3})
	z.w = z.w.with(z.m.Tris())
	z.says(t, 0, 1, false, true)
	z.settle(t, 1, [2]int{1, 0})
	z.has(t, behind...)
}

// Two edges that the same one hinders; the one of them is hindered by another one as
// soon as a side of it is turned: in whatever order the list has all of these, none is
// forgotten.
func TestSeveralHindered(t *testing.T) {
	points := []api.Point{at(0, 0), at(10, 0), at(5, 1), at(5, -1), at(20, 0), at(-20, 0), at(5.125, 0), at(4.875, 0), at(0.5, 0), at(9.5, 0), at(7.5, 0.5), at(9, -3)}
	tris := []api.Tri{{0, 1, 2}, {1, 0, 3}, {8, 9, 2}, {9, 8, 3}, {2, 9, 10}, {2, 3, 6}, {3, 2, 7}, {10, 3, 11}}
	x := made(t, points, tris)
	x.says(t, 0, 1, true, false)
	x.says(t, 8, 9, true, false)
	x.says(t, 2, 9, false, true)
	x.says(t, 2, 3, false, true)
	x.settled(t, nil, true, false)
	edges := [][2]int{{0, 1}, {8, 9}, {2, 9}, {2, 3}}
	for i := range 256 {
		l := [][2]int{edges[i%4], edges[i/4%4], edges[i/16%4], edges[i/64]}
		x.settled(t, l, false, false)
	}
}

// frame has a hole in its middle, and triangles around it, long ones and short ones.
func frame(t *testing.T) pair {
	t.Helper()
	return made(t, []api.Point{at(0, 0), at(9, 0), at(9, 9), at(0, 9), at(2, 3), at(6, 2), at(7, 6), at(3, 7), at(4, 4)}, []api.Tri{
		{0, 1, 4}, {1, 5, 4}, {1, 2, 5}, {2, 6, 5}, {2, 3, 6}, {3, 7, 6}, {3, 0, 7}, {0, 4, 7}})
}

// A mesh with a hole, and one of several parts: nothing is turned over what is no
// ground, and each part is settled by itself.
func TestHolesAndParts(t *testing.T) {
	x := frame(t)
	x.allAsked(t)
	y, n := x.settled(t, nil, true, true)
	if n == 0 {
		t.Error("none was turned")
	}
	y.allAsked(t)
	parts := made(t, []api.Point{at(0, 0), at(9, 0), at(9, 9), at(1, 2), at(20, 0), at(29, 0), at(29, 9), at(21, 2), at(40, 0), at(44, 0), at(40, 4)},
		[]api.Tri{{0, 1, 2}, {0, 2, 3}, {4, 5, 6}, {4, 6, 7}, {8, 9, 10}})
	parts.settle(t, 1, [2]int{4, 6}, [2]int{8, 9})
	parts.has(t, api.Tri{0, 1, 2}, api.Tri{0, 2, 3}, api.Tri{4, 5, 7}, api.Tri{5, 6, 7}, api.Tri{8, 9, 10})
	parts.all(t, 1)
	parts.has(t, api.Tri{0, 1, 3}, api.Tri{1, 2, 3}, api.Tri{4, 5, 7}, api.Tri{5, 6, 7}, api.Tri{8, 9, 10})
}

// The greatest and the least steps in one mesh, and points at the ends of what may be.
func TestGreatAndSmall(t *testing.T) {
	const most, step = 0x1p100, 0x1p-100
	x := four(t, at(-most, -most), at(most, -most), at(most, most), at(-most, most))
	x.says(t, 0, 2, true, true)
	x.turns(t, 0, 2)
	y := four(t, at(-most, -most), at(most, -most), at(most, most), at(-most+step*0x1p148, most))
	y.says(t, 0, 2, false, true)
	y.all(t, 1)
	z := four(t, at(0, 0), at(step, 0), at(step, step), at(0, step))
	z.says(t, 0, 2, true, true)
	z.turns(t, 0, 2)
	points := []api.Point{at(-most, -most), at(most, -most), at(most, most), at(-most, most), at(0, 0), at(step, 0), at(0, step), at(0.5, 0.5), at(-step, -step)}
	w := made(t, points, []api.Tri{{4, 5, 6}, {0, 1, 5}, {5, 1, 2}, {5, 2, 6}, {6, 2, 3}, {6, 3, 0}, {0, 4, 6}, {0, 5, 4}})
	w.allAsked(t)
	for _, e := range w.w.edges() {
		w.turns(t, e[0], e[1])
	}
	w.settled(t, nil, true, true)
	w.settled(t, [][2]int{{0, 4}, {5, 6}}, false, true)
	thin := four(t, at(-most, 0), at(0, -step), at(most, 0), at(0, step))
	thin.says(t, 0, 2, false, true)
	thin.all(t, 1)
}

// Corners that are alike: edges of unlike numbers are unlike edges, so that nothing is
// shared, and an alike one stands in nobody's way.
func TestAlike(t *testing.T) {
	minus := math.Copysign(0, -1)
	points := []api.Point{at(0, 0), at(9, 0), at(9, 9), at(1, 2), at(minus, 0), at(9, 9), at(1, 2), at(9, minus)}
	apart := made(t, points, []api.Tri{{0, 1, 2}, {4, 5, 3}})
	apart.allAsked(t)
	apart.all(t, 0)
	half := made(t, points, []api.Tri{{0, 1, 2}, {0, 5, 3}})
	half.says(t, 0, 2, true, false)
	half.says(t, 0, 5, true, false)
	half.all(t, 0)
	twice := made(t, points, []api.Tri{{0, 1, 2}, {0, 2, 3}, {4, 7, 5}, {4, 5, 6}})
	twice.allAsked(t)
	twice.settle(t, 1, [2]int{4, 5})
	twice.all(t, 1)
	twice.has(t, api.Tri{0, 1, 3}, api.Tri{1, 2, 3}, api.Tri{4, 7, 6}, api.Tri{5, 6, 7})
	way := made(t, points, []api.Tri{{0, 1, 2}, {0, 2, 3}, {1, 5, 6}, {7, 2, 6}})
	way.says(t, 0, 2, false, true)
	way.all(t, 1)
}

// ring is a twisted ring of triangles, twice as many as its sectors, that goes around
// its middle so often, and of which each edge between two is drawn.
func ring(t *testing.T, r *rand.Rand, sectors, turns int) pair {
	t.Helper()
	n := sectors * turns
	points := make([]api.Point, 2*n)
	var tris []api.Tri
	for i := range n {
		angle := 2 * math.Pi * float64(i) / float64(sectors)
		on := func(radius, angle float64) api.Point {
			return at(math.Round(radius*math.Cos(angle)), math.Round(radius*math.Sin(angle)))
		}
		points[i] = on(1<<30, angle)
		points[n+i] = on(1<<29, angle-math.Pi/float64(sectors)*r.Float64())
		next := (i + 1) % n
		if r.IntN(2) == 0 {
			tris = append(tris, api.Tri{n + i, i, next}, api.Tri{n + i, next, n + next})
		} else {
			tris = append(tris, api.Tri{n + i, i, n + next}, api.Tri{i, next, n + next})
		}
	}
	return made(t, points, tris)
}

// Rings that go around several times lie upon themselves; each of their edges is
// settled all the same.
func TestRings(t *testing.T) {
	r := rand.New(rand.NewPCG(17, 11))
	turned := 0
	for _, sectors := range []int{8, 9, 40} {
		for turns := range 4 {
			x := ring(t, r, sectors, turns+1)
			_, n := x.settled(t, nil, true, turns == 0)
			x.settled(t, drawnList(r, x.w), false, turns == 0)
			turned += n
		}
	}
	if turned < 100 {
		t.Error("too few were turned:", turned)
	}
}

// P1: where very many triangles lie upon one another, All comes to an end, with all
// edges in order.
func TestEnds(t *testing.T) {
	r := rand.New(rand.NewPCG(17, 12))
	for _, n := range []int{12, 40, 100} {
		var points []api.Point
		for i := range n {
			p := at(float64(r.IntN(9)), float64(r.IntN(9)))
			if i%2 == 0 {
				p = at(r.Float64()*8, r.Float64()*8)
			}
			points = append(points, p)
		}
		x := made(t, points, nil)
		for range 40 * n * n {
			x.m.Make(r.IntN(n), r.IntN(n), r.IntN(n))
		}
		x.w = x.w.with(x.m.Tris())
		if x.m.Count() < n*n/8 {
			t.Error("too few triangles:", n, x.m.Count())
		}
		x.settled(t, drawnList(r, x.w), false, false)
		x.settled(t, nil, true, false)
	}
}

// A list that names edges twice, with their ends in either order, and what is no
// edge: each is turned once.
func TestLists(t *testing.T) {
	for _, l := range [][][2]int{
		{{0, 2}}, {{2, 0}}, {{0, 2}, {0, 2}}, {{0, 2}, {2, 0}}, {{2, 0}, {0, 2}, {2, 0}},
		{{0, 2}, {1, 3}}, {{3, 1}, {2, 0}}, {{-1, 0}, {0, 2}, {4, 0}}, {{0, 0}, {2, 2}, {0, 2}, {9, 9}},
		{{math.MinInt, math.MaxInt}, {0, 2}, {math.MaxInt, math.MinInt}, {0, 1}, {1, 0}},
	} {
		x := crooked(t)
		x.settle(t, 1, l...)
		x.has(t, api.Tri{0, 1, 3}, api.Tri{1, 2, 3})
		x.settle(t, 0, l...)
	}
	for _, l := range [][][2]int{{{0, 1}}, {{1, 3}}, {{3, 1}, {2, 3}}, {{0, 0}}, {{2, 2}}, {{0, -2}}, {{2, 1 << 32}}, {{1 << 32, 2 + 1<<32}}} {
		x := crooked(t)
		x.settle(t, 0, l...)
		x.has(t, api.Tri{0, 1, 2}, api.Tri{0, 2, 3})
	}
}

// A part of a longer list is settled, and the rest of it, on either side, is left as
// it is, though edges come to be looked at that are not in the part (R3).
func TestPartOfAList(t *testing.T) {
	path := slices.Concat(slices.Repeat([]bool{true}, 9), slices.Repeat([]bool{false}, 9))
	x, squares := strip(t, path, 20)
	whole := x.w.edges()
	before := slices.Clone(whole)
	for from := range whole {
		for to := from; to <= len(whole); to++ {
			m := x.m.Copy()
			n, e := flip.Settle(m, whole[from:to])
			want := 0
			if listed(whole[from:to], x.w.wrong()) {
				want = squares
			}
			if n != want || e != api.OK || !slices.Equal(whole, before) {
				t.Fatalf("Settle of %v: %d, %v; want %d; the list is %v", before[from:to], n, e, want, whole)
			}
		}
	}
}

// A triangle whose point goes, and comes again, with its neighbour turned since: the
// mesh is asked each time anew.
func TestBetweenChanges(t *testing.T) {
	x := crooked(t)
	x.all(t, 1)
	n, e := x.m.Add(at(8, 1))
	if e != api.OK {
		t.Fatal(e)
	}
	x.m.Kill(1, 2, 3)
	for _, c := range []api.Tri{{1, 2, n}, {2, 3, n}, {3, 1, n}} {
		if e := x.m.Make(c[0], c[1], c[2]); e != api.OK {
			t.Fatal("Make:", c, e)
		}
	}
	y := made(t, x.m.Points(), x.m.Tris())
	y.allAsked(t)
	want, _ := y.settled(t, [][2]int{{1, 2}, {2, 3}, {3, 1}}, false, true)
	x.settles(t, [][2]int{{1, 2}, {2, 3}, {3, 1}})
	if !slices.Equal(x.m.Tris(), want.w.tris) {
		t.Error(x.m.Tris(), want.w.tris)
	}
}

// A triangulation whose points are all on a circle is in order, whichever edges are
// there, and of as many triangles behind any turns.
func TestAllOnOneCircle(t *testing.T) {
	var points []api.Point
	for _, p := range [][2]float64{{65, 0}, {63, 16}, {60, 25}, {56, 33}, {52, 39}, {39, 52}, {33, 56}, {25, 60}, {16, 63}, {0, 65}, {-65, 0}, {0, -65}} {
		points = append(points, at(p[0], p[1]))
	}
	var tris []api.Tri
	for i := range len(points) - 2 {
		tris = append(tris, api.Tri{0, i + 1, i + 2})
	}
	m, e := mesh.Of(points, tris)
	if e != api.OK {
		t.Fatal(e)
	}
	r := rand.New(rand.NewPCG(17, 13))
	x := pair{m, modelOf(points, tris, nil)}
	for range 50 {
		x.all(t, 0)
		edges := m.Edges()
		c := edges[r.IntN(len(edges))]
		if x.turns(t, c[0], c[1]) {
			x.turn(t, c[0], c[1], api.OK)
		}
		x.w = x.w.with(m.Tris())
		x.allAsked(t)
	}
}
