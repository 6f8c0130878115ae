package walk_test

import (
	"math"
	"math/rand/v2"
	"slices"
	"testing"

	"trivet/api"
	"trivet/walk"
)

// jittered are the points of a grid, each moved a little, and two triangles for
// each of its squares, over one diagonal or the other.
func jittered(r *rand.Rand, wide, high int) ([]api.Point, []api.Tri) {
	var points []api.Point
	var tris []api.Tri
	for i := range wide * high {
		points = append(points, at(float64(i%wide*10+r.IntN(5)), float64(i/wide*10+r.IntN(5))))
		if i%wide == wide-1 || i/wide == high-1 {
			continue
		}
		a, b, c, d := i, i+1, i+wide, i+wide+1
		if r.IntN(2) == 0 {
			tris = append(tris, api.Tri{a, b, c}, api.Tri{b, d, c})
		} else {
			tris = append(tris, api.Tri{a, b, d}, api.Tri{a, d, c})
		}
	}
	return points, tris
}

// split are points within a square, and triangles over the square that are what is
// left when each point in turn has split the triangles that it lies in or on: some
// of them are very thin.
func split(r *rand.Rand, n int) ([]api.Point, []api.Tri) {
	points := []api.Point{at(0, 0), at(64, 0), at(64, 64), at(0, 64)}
	tris := []api.Tri{{0, 1, 2}, {0, 2, 3}}
	for len(points) < n {
		p := at(float64(r.IntN(65)), float64(r.IntN(65)))
		if r.IntN(3) > 0 {
			p = at(math.Round(r.Float64()*0x1p40)*0x1p-34, math.Round(r.Float64()*0x1p40)*0x1p-34)
		}
		if slices.Contains(points, p) {
			continue
		}
		points = append(points, p)
		tris = splitBy(points, tris)
	}
	return points, tris
}

// splitBy puts three triangles at the last point in the place of the one that has
// it inside, two for one that has it on an edge.
func splitBy(points []api.Point, tris []api.Tri) []api.Tri {
	n := len(points) - 1
	side := func(a, b int) int {
		p, q, s := spotOf(points[a]), spotOf(points[b]), spotOf(points[n])
		return turn(less(q, p), less(s, p)).Sign()
	}
	var l []api.Tri
	for _, t := range tris {
		a, b, c := t[0], t[1], t[2]
		sides := [3]int{side(a, b), side(b, c), side(c, a)}
		if slices.Min(sides[:]) < 0 {
			l = append(l, t)
			continue
		}
		for i, s := range sides {
			if s > 0 {
				l = append(l, api.Tri{t[i], t[(i+1)%3], n})
			}
		}
	}
	return l
}

// shuffled are the same points with other numbers, some of them loose ones, some
// alike a corner, and the triangles in another order, from some corner on.
func shuffled(r *rand.Rand, points []api.Point, tris []api.Tri) ([]api.Point, []api.Tri) {
	loose := 1 + r.IntN(4)
	all := slices.Clone(points)
	for range loose {
		all = append(all, points[r.IntN(len(points))], at(float64(r.IntN(65)), float64(r.IntN(65))))
	}
	to := r.Perm(len(all))
	moved := make([]api.Point, len(all))
	for i, p := range all {
		moved[to[i]] = p
	}
	var l []api.Tri
	for _, t := range tris {
		by := r.IntN(3)
		l = append(l, api.Tri{to[t[by]], to[t[(by+1)%3]], to[t[(by+2)%3]]})
	}
	r.Shuffle(len(l), func(i, j int) { l[i], l[j] = l[j], l[i] })
	return moved, l
}

// grown makes all coordinates 2^k times as large.
func grown(points []api.Point, k int) []api.Point {
	l := make([]api.Point, len(points))
	for i, p := range points {
		l[i] = at(math.Ldexp(p.X, k), math.Ldexp(p.Y, k))
	}
	return l
}

// beside is a point some floats away, if it may be.
func beside(r *rand.Rand, p api.Point) api.Point {
	move := func(x float64) float64 {
		for range r.IntN(3) {
			x = math.Nextafter(x, math.Inf(1-2*r.IntN(2)))
		}
		return math.Trunc(x*0x1p100) * 0x1p-100
	}
	return at(move(p.X), move(p.Y))
}

// drawnPoint is near or on what the mesh has, or far away.
func drawnPoint(r *rand.Rand, w *model) api.Point {
	any := func() api.Point { return w.points[r.IntN(len(w.points))] }
	p, q := any(), any()
	if len(w.edges) > 0 {
		e := w.edges[r.IntN(len(w.edges))]
		p, q = w.points[e[0]], w.points[e[1]]
	}
	part := [...]float64{0, 0.5, 0.25, 0.875, 1, 1.5, -0.5, r.Float64()}[r.IntN(8)]
	on := at(p.X+part*(q.X-p.X), p.Y+part*(q.Y-p.Y))
	switch r.IntN(4) {
	case 0:
		on = beside(r, on)
	case 1:
		s := any()
		on = at((p.X+q.X+s.X)/3, (p.Y+q.Y+s.Y)/3)
	}
	return at(math.Trunc(on.X*0x1p100)*0x1p-100, math.Trunc(on.Y*0x1p100)*0x1p-100)
}

// drawnWhole is a mesh that covers a square, or about a square.
func drawnWhole(r *rand.Rand, n int) ([]api.Point, []api.Tri) {
	if r.IntN(2) == 0 {
		return jittered(r, 2+r.IntN(n), 2+r.IntN(n))
	}
	return split(r, 4+r.IntN(n*n))
}

// drawnPair is a mesh that covers a square, or less than that; often much greater,
// or much smaller.
func drawnPair(t *testing.T, r *rand.Rand, n int) pair {
	t.Helper()
	points, tris := drawnWhole(r, n)
	points, tris = shuffled(r, points, tris)
	if r.IntN(2) == 0 {
		tris = tris[:r.IntN(len(tris)+1)]
	}
	if r.IntN(3) == 0 {
		points = grown(points, r.IntN(140)-50)
	}
	return made(t, points, tris)
}

func drawnSeeds(r *rand.Rand) []uint64 {
	return []uint64{0, math.MaxUint64, r.Uint64(), r.Uint64(), uint64(r.IntN(100))}
}

// Drawn meshes, few triangles and many, with holes and parts and loose points: each
// drawn point's place, and what is in the way between drawn corners.
func TestDrawn(t *testing.T) {
	r := rand.New(rand.NewPCG(16, 1))
	kinds := map[uint8]int{}
	for i := range 400 {
		x := drawnPair(t, r, 2+i%9)
		before := told(x.m)
		for range 25 {
			p := drawnPoint(r, x.w)
			kinds[x.found(t, p, drawnSeeds(r)...)[0].Kind]++
		}
		for range 6 {
			x.asked(t, r.IntN(len(x.w.points)), r.IntN(len(x.w.points)))
		}
		if !told(x.m).same(before) {
			t.Fatal("the mesh is another one")
		}
	}
	for _, kind := range []uint8{api.Inside, api.OnEdge, api.OnPoint, api.Outside} {
		if kinds[kind] < 300 {
			t.Error("too few places of one kind:", kind, kinds[kind])
		}
	}
}

// drawnPile is a mesh of few points, many of them alike, and triangles that lie
// upon one another.
func drawnPile(t *testing.T, r *rand.Rand) pair {
	t.Helper()
	var points []api.Point
	for range 3 + r.IntN(9) {
		points = append(points, at(float64(r.IntN(5)*6), float64(r.IntN(5)*6)))
	}
	x := made(t, points, nil)
	for range r.IntN(80) {
		x.m.Make(r.IntN(len(points)), r.IntN(len(points)), r.IntN(len(points)))
	}
	return pair{x.m, modelOf(points, x.m.Tris())}
}

// Triangles drawn one upon the other: where a point has several places, the answer
// is one of them, for each seed; where it has none, it is Outside.
func TestDrawnPiles(t *testing.T) {
	r := rand.New(rand.NewPCG(16, 2))
	several := 0
	for range 500 {
		x := drawnPile(t, r)
		for range 20 {
			p := at(float64(r.IntN(27)-1), float64(r.IntN(27)-1))
			if r.IntN(3) == 0 {
				p = drawnPoint(r, x.w)
			}
			if len(x.found(t, p, seeds...)) > 1 {
				several++
			}
		}
		x.allAsked(t)
	}
	if several < 1000 {
		t.Error("too few points have several places:", several)
	}
}

// A mesh of very many triangles: if each of them were looked at for each point, it
// would take far too long.
func TestVeryMany(t *testing.T) {
	const n = 400
	var points []api.Point
	var tris []api.Tri
	for i := range n * n {
		points = append(points, at(float64(i%n), float64(i/n)))
		if i%n < n-1 && i/n < n-1 {
			tris = append(tris, api.Tri{i, i + 1, i + n}, api.Tri{i + n + 1, i + n, i + 1})
		}
	}
	x := made(t, points, nil)
	for _, c := range tris {
		x.m.Make(c[0], c[1], c[2])
	}
	r := rand.New(rand.NewPCG(16, 3))
	for range 40000 {
		column, row := r.IntN(n-1), r.IntN(n-1)
		left, up := r.Float64()*0.4+0.01, r.Float64()*0.4+0.01
		a := column + row*n
		want := walk.Place{Kind: api.Inside, A: a, B: a + 1, C: a + n}
		p := at(float64(column)+left, float64(row)+up)
		switch r.IntN(4) {
		case 0:
			p = at(float64(column)+1-left, float64(row)+1-up)
			want = walk.Place{Kind: api.Inside, A: a + 1, B: a + n + 1, C: a + n}
		case 1:
			p = at(float64(column)+0.5, float64(row)+0.5)
			want = walk.Place{Kind: api.OnEdge, A: a + 1, B: a + n}
		case 2:
			p = at(float64(column), float64(row))
			want = walk.Place{Kind: api.OnPoint, A: a}
		}
		if got, e := walk.Find(x.m, p, r.Uint64()); got != want || e != api.OK {
			t.Fatalf("Find of %v: %v, %v; want %v", p, got, e, want)
		}
	}
	for _, p := range []api.Point{at(-1, 7), at(n, n), at(0x1p100, 0x1p-100), at(17, -0x1p-100)} {
		if got, e := walk.Find(x.m, p, r.Uint64()); got != (walk.Place{Kind: api.Outside}) || e != api.OK {
			t.Errorf("Find of %v: %v, %v", p, got, e)
		}
	}
}
