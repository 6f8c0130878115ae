package walk_test

import (
	"cmp"
	"math"
	"math/big"
	"slices"
	"testing"

	"trivet/api"
	"trivet/mesh"
	"trivet/walk"
)

func at(x, y float64) api.Point { return api.Point{X: x, Y: y} }

// spot is a point in whole steps of 2^-100.
type spot struct{ x, y *big.Int }

func spotOf(p api.Point) spot {
	steps := func(x float64) *big.Int {
		exact := new(big.Rat).SetFloat64(x)
		exact.Mul(exact, new(big.Rat).SetInt(new(big.Int).Lsh(big.NewInt(1), 100)))
		if !exact.IsInt() {
			panic("a coordinate that may not be")
		}
		return exact.Num()
	}
	return spot{steps(p.X), steps(p.Y)}
}

func less(p, q spot) spot { return spot{new(big.Int).Sub(p.x, q.x), new(big.Int).Sub(p.y, q.y)} }

func times(x, y *big.Int) *big.Int { return new(big.Int).Mul(x, y) }

// turn is p.x q.y - p.y q.x, along is p.x q.x + p.y q.y.
func turn(p, q spot) *big.Int  { return new(big.Int).Sub(times(p.x, q.y), times(p.y, q.x)) }
func along(p, q spot) *big.Int { return new(big.Int).Add(times(p.x, q.x), times(p.y, q.y)) }

func (p spot) alike(q spot) bool { return p.x.Cmp(q.x) == 0 && p.y.Cmp(q.y) == 0 }

func leftOf(a, b, p spot) bool { return turn(less(b, a), less(p, a)).Sign() > 0 }

// between: seen from p, the ends lie on one line with it, in opposite directions.
func between(a, b, p spot) bool {
	toA, toB := less(a, p), less(b, p)
	return turn(toA, toB).Sign() == 0 && along(toA, toB).Sign() < 0
}

// cross looks for the point that the two lines have in common, and asks how far
// along each segment it lies.
func cross(a, b, c, d spot) bool {
	ab, cd, ac := less(b, a), less(d, c), less(c, a)
	whole := turn(ab, cd)
	if whole.Sign() == 0 {
		return false
	}
	inner := func(part *big.Int) bool {
		share := new(big.Rat).SetFrac(part, whole)
		return share.Sign() > 0 && share.Cmp(big.NewRat(1, 1)) < 0
	}
	return inner(turn(ac, cd)) && inner(turn(ac, ab))
}

// model is a mesh as a list of triangles, each of which is looked at.
type model struct {
	points  []api.Point
	tris    []api.Tri
	spots   []spot
	edges   [][2]int
	corners []int
}

func modelOf(points []api.Point, tris []api.Tri) *model {
	w := &model{points: points, tris: tris}
	for _, p := range points {
		w.spots = append(w.spots, spotOf(p))
	}
	for _, t := range tris {
		for i := range t {
			a, b := t[i], t[(i+1)%3]
			w.corners = append(w.corners, a)
			w.edges = append(w.edges, [2]int{min(a, b), max(a, b)})
		}
	}
	slices.Sort(w.corners)
	w.corners = slices.Compact(w.corners)
	slices.SortFunc(w.edges, func(e, f [2]int) int { return slices.Compare(e[:], f[:]) })
	w.edges = slices.Compact(w.edges)
	return w
}

// places are all that a point has.
func (w *model) places(point api.Point) []walk.Place {
	var l []walk.Place
	p := spotOf(point)
	for _, c := range w.corners {
		if w.spots[c].alike(p) {
			l = append(l, walk.Place{Kind: api.OnPoint, A: c})
		}
	}
	for _, e := range w.edges {
		if between(w.spots[e[0]], w.spots[e[1]], p) {
			l = append(l, walk.Place{Kind: api.OnEdge, A: e[0], B: e[1]})
		}
	}
	for _, t := range w.tris {
		a, b, c := w.spots[t[0]], w.spots[t[1]], w.spots[t[2]]
		if leftOf(a, b, p) && leftOf(b, c, p) && leftOf(c, a, p) {
			least := slices.Index(t[:], slices.Min(t[:]))
			l = append(l, walk.Place{Kind: api.Inside, A: t[least], B: t[(least+1)%3], C: t[(least+2)%3]})
		}
	}
	if len(l) == 0 {
		return []walk.Place{{Kind: api.Outside}}
	}
	return l
}

func (w *model) across(a, b int) [][2]int {
	var l [][2]int
	for _, e := range w.edges {
		if cross(w.spots[a], w.spots[b], w.spots[e[0]], w.spots[e[1]]) {
			l = append(l, e)
		}
	}
	return l
}

// through: nearer to a are those of which the way from a is shorter.
func (w *model) through(a, b int) []int {
	var l []int
	for _, c := range w.corners {
		if between(w.spots[a], w.spots[b], w.spots[c]) {
			l = append(l, c)
		}
	}
	far := func(c int) *big.Int { way := less(w.spots[c], w.spots[a]); return along(way, way) }
	slices.SortFunc(l, func(c, d int) int { return cmp.Or(far(c).Cmp(far(d)), cmp.Compare(c, d)) })
	return l
}

// pair is a mesh and its model.
type pair struct {
	m *mesh.Mesh
	w *model
}

func made(t *testing.T, points []api.Point, tris []api.Tri) pair {
	t.Helper()
	m, e := mesh.Of(points, tris)
	if e != api.OK {
		t.Fatalf("no mesh of %v, %v: %v", points, tris, e)
	}
	return pair{m, modelOf(points, tris)}
}

// seeds are some of all kinds.
var seeds = []uint64{0, 1, 2, 3, 7, 99, 1 << 31, 1 << 32, 1<<63 - 1, 1 << 63, 1<<64 - 2, math.MaxUint64}

// found holds what Find tells, for each seed, against all places that the point has.
func (x pair) found(t *testing.T, p api.Point, seeds ...uint64) []walk.Place {
	t.Helper()
	want := x.w.places(p)
	for _, seed := range seeds {
		got, e := walk.Find(x.m, p, seed)
		if e != api.OK || !slices.Contains(want, got) {
			t.Fatalf("Find of %x, seed %d: %v, %v; want one of %v\npoints %x\ntriangles %v", p, seed, got, e, want, x.w.points, x.w.tris)
		}
	}
	return want
}

// asked holds what is in the way between two points against the model, there and
// back.
func (x pair) asked(t *testing.T, a, b int) {
	t.Helper()
	for _, ends := range [][2]int{{a, b}, {b, a}} {
		edges, e := walk.Across(x.m, ends[0], ends[1])
		if want := x.w.across(ends[0], ends[1]); e != api.OK || !slices.Equal(edges, want) {
			t.Fatalf("Across of %v: %v, %v; want %v\npoints %x\ntriangles %v", ends, edges, e, want, x.w.points, x.w.tris)
		}
		corners, e := walk.Through(x.m, ends[0], ends[1])
		if want := x.w.through(ends[0], ends[1]); e != api.OK || !slices.Equal(corners, want) {
			t.Fatalf("Through of %v: %v, %v; want %v\npoints %x\ntriangles %v", ends, corners, e, want, x.w.points, x.w.tris)
		}
	}
}

// allAsked is asked of each two points of a small mesh.
func (x pair) allAsked(t *testing.T) {
	t.Helper()
	for a := range x.w.points {
		for b := range a + 1 {
			x.asked(t, a, b)
		}
	}
}
