package flip_test

import (
	"math/rand/v2"
	"slices"
	"testing"

	"trivet/api"
	"trivet/flip"
)

// strip is two rows of points, side by side, the higher one shifted to the right, and
// triangles between them: from the left on each step of the path goes on by a point
// of the higher row, or, if it is false, of the lower one. Each parallelogram of four
// points is cut by its longer diagonal, or by its shorter one; in the end all are cut
// by the shorter one: so many turns it takes as there are squares below the path,
// whichever edge is turned first.
func strip(t *testing.T, path []bool, shift float64) (pair, int) {
	t.Helper()
	low, high, squares := 0, 0, 0
	for _, up := range path {
		if up {
			high++
		} else {
			low, squares = low+1, squares+high
		}
	}
	var points []api.Point
	for i := range low + 1 {
		points = append(points, at(float64(i), 0))
	}
	for i := range high + 1 {
		points = append(points, at(shift+float64(i), 3))
	}
	var tris []api.Tri
	bottom, top := 0, low+1
	for _, up := range path {
		if up {
			tris = append(tris, api.Tri{bottom, top + 1, top})
			top++
		} else {
			tris = append(tris, api.Tri{bottom, bottom + 1, top})
			bottom++
		}
	}
	return made(t, points, tris), squares
}

// How many are turned, counted beforehand (P17.2), and never more than P17.6 says.
func TestCounted(t *testing.T) {
	r := rand.New(rand.NewPCG(17, 5))
	for i := range 60 {
		path := make([]bool, 2+r.IntN(2*i+2))
		for j := range path {
			path[j] = r.IntN(2) == 0
		}
		x, squares := strip(t, path, float64(len(path)+r.IntN(9)))
		y, n := x.settled(t, nil, true, true)
		z, k := x.settled(t, x.w.wrong(), false, true)
		if n != squares || k != squares || !slices.Equal(y.w.tris, z.w.tris) {
			t.Fatalf("%d, and %d, were turned; want %d\n%v", n, k, squares, x.w.tris)
		}
	}
}

// About as many turns as there may be of so many corners, and one behind the other:
// it does not take too long.
func TestVeryManyTurns(t *testing.T) {
	const n = 700
	path := append(slices.Repeat([]bool{true}, n), slices.Repeat([]bool{false}, n)...)
	x, squares := strip(t, path, n+1)
	if x.m.Fix(0, n, 1) != api.OK || squares != n*n {
		t.Fatal("no such strip:", squares)
	}
	x.all(t, squares)
	x.inOrder(t)
	if c, there := x.m.Apex(n, n+1); !there || c != n-1 {
		t.Error("apex:", c, there)
	}
}

// tiles are squares side by side, each cut by one diagonal; all edges but these are
// fixed, and of these some. So many are turned of a list as there are in it that are
// not in order.
func tiles(t *testing.T, r *rand.Rand, wide, high int) pair {
	t.Helper()
	points, tris := jittered(r, wide, high)
	var fixes [][2]int
	for i := range points {
		if i%wide < wide-1 {
			fixes = append(fixes, [2]int{i, i + 1})
		}
		if i/wide < high-1 {
			fixes = append(fixes, [2]int{i, i + wide})
		}
		if i%wide < wide-1 && i/wide < high-1 && r.IntN(5) == 0 {
			fixes = append(fixes, [2]int{i, i + wide + 1})
		}
	}
	return made(t, points, tris, fixes...)
}

// Of edges that are not around one another it is known how many are turned of a list,
// and which: those of it that are not in order.
func TestFixedAround(t *testing.T) {
	r := rand.New(rand.NewPCG(17, 6))
	kept := 0
	for range 40 {
		x := tiles(t, r, 2+r.IntN(9), 2+r.IntN(9))
		l := drawnList(r, x.w)
		want := x.w
		turned := 0
		for _, e := range x.w.wrong() {
			if listed(l, [][2]int{e}) {
				want, turned = want.turned(e[0], e[1]), turned+1
			} else {
				kept++
			}
		}
		y, n := x.settled(t, l, false, true)
		if n != turned || !slices.Equal(y.w.tris, want.tris) {
			t.Fatalf("%d were turned of %v: %v; want %d: %v", n, l, y.w.tris, turned, want.tris)
		}
		_, n = x.settled(t, nil, true, true)
		if wrong := len(x.w.wrong()); n != wrong {
			t.Fatalf("%d were turned of all; want %d", n, wrong)
		}
	}
	if kept < 100 {
		t.Error("too few were to be kept:", kept)
	}
}

// P17.3: where all edges are in order, some are turned; those that are not in order
// then are settled, and all are in order.
func TestOthersInOrder(t *testing.T) {
	r := rand.New(rand.NewPCG(17, 7))
	turned := 0
	for i := range 200 {
		x := drawnPair(t, r, 2+i%8)
		x, _ = x.settled(t, nil, true, true)
		edges := x.w.edges()
		for range 1 + r.IntN(6) {
			if len(edges) == 0 {
				break
			}
			e := edges[r.IntN(len(edges))]
			flip.Turn(x.m, e[0], e[1])
		}
		x.w = x.w.with(x.m.Tris())
		l := append(drawnList(r, x.w), x.w.wrong()...)
		r.Shuffle(len(l), func(i, j int) { l[i], l[j] = l[j], l[i] })
		y, n := x.settled(t, l, false, true)
		if wrong := y.w.wrong(); len(wrong) > 0 {
			t.Fatal("not in order:", wrong)
		}
		turned += n
	}
	if turned < 150 {
		t.Error("too few were turned:", turned)
	}
}

// generic is a mesh of points of which no four lie on a circle, hardly; the same
// points are handed to it each time, and taken in another order.
func generic(t *testing.T, r *rand.Rand, inner []api.Point) pair {
	t.Helper()
	points := []api.Point{at(0, 0), at(64, 1), at(63, 66), at(-1, 65)}
	tris := []api.Tri{{0, 1, 2}, {0, 2, 3}}
	if r.IntN(2) == 0 {
		tris = []api.Tri{{0, 1, 3}, {1, 2, 3}}
	}
	to := []int{0, 1, 2, 3}
	for _, i := range r.Perm(len(inner)) {
		points = append(points, inner[i])
		to = append(to, 4+i)
	}
	tris = splitBy(points, tris)
	sorted := make([]api.Point, len(points))
	for i, p := range points {
		sorted[to[i]] = p
	}
	for i, c := range tris {
		tris[i] = api.Tri{to[c[0]], to[c[1]], to[c[2]]}
	}
	return made(t, sorted, tris)
}

// Behind All of a triangulation no point lies within any triangle's circle; and where
// none lies on one, another triangulation of the same points comes to the same one.
func TestOneDelaunay(t *testing.T) {
	r := rand.New(rand.NewPCG(17, 8))
	differed := 0
	for range 12 {
		var inner []api.Point
		for range 3 + r.IntN(50) {
			inner = append(inner, at(2+r.Float64()*60, 2+r.Float64()*60))
		}
		x, y := generic(t, r, inner), generic(t, r, inner)
		if !slices.Equal(x.w.tris, y.w.tris) {
			differed++
		}
		x, _ = x.settled(t, nil, true, true)
		y, _ = y.settled(t, nil, true, true)
		if !slices.Equal(x.w.tris, y.w.tris) {
			t.Fatalf("%v, and %v", x.w.tris, y.w.tris)
		}
		for _, c := range x.w.tris {
			for d, p := range x.w.spots {
				if !slices.Contains(c[:], d) && nearer(x.w.spots[c[0]], x.w.spots[c[1]], x.w.spots[c[2]], p) <= 0 {
					t.Fatal("within the circle of", c, d)
				}
			}
		}
	}
	if differed < 10 {
		t.Error("too few were unlike ahead of it:", differed)
	}
}

// P17.5, many times over: a row of edges is turned, and the same row from its end on.
func TestAllTheWayBack(t *testing.T) {
	r := rand.New(rand.NewPCG(17, 9))
	far := 0
	for i := range 60 {
		x, _ := drawnPairs(t, r, i, 3+i%6)
		before := told(x.m)
		var back [][2]int
		for range 40 {
			edges := x.m.Edges()
			if len(edges) == 0 {
				break
			}
			e := edges[r.IntN(len(edges))]
			c, _ := x.m.Apex(e[0], e[1])
			d, _ := x.m.Apex(e[1], e[0])
			if _, fixed := x.m.Fixed(c, d); fixed {
				continue
			}
			if flip.Turn(x.m, e[1], e[0]) == api.OK {
				back = append(back, [2]int{c, d})
			}
		}
		far = max(far, len(back))
		slices.Reverse(back)
		for _, e := range back {
			x.turn(t, e[0], e[1], api.OK)
		}
		if !told(x.m).same(before) {
			t.Fatalf("%d turned, and back: %v; want %v", len(back), x.m.Tris(), before.tris)
		}
	}
	if far < 25 {
		t.Error("too few were turned:", far)
	}
}
