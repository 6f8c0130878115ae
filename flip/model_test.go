package flip_test

import (
	"math/big"
	"slices"
	"testing"

	"trivet/api"
	"trivet/flip"
	"trivet/mesh"
)

func at(x, y float64) api.Point { return api.Point{X: x, Y: y} }

// spot is a point in whole steps of 2^-100.
type spot struct{ x, y *big.Int }

func spotOf(p api.Point) spot {
	steps := func(x float64) *big.Int {
		exact := new(big.Rat).SetFloat64(x)
		exact.Mul(exact, new(big.Rat).SetInt(new(big.Int).Lsh(big.NewInt(1), 100)))
		if !exact.IsInt() {
			panic("a coordinate that may not be")
		}
		return exact.Num()
	}
	return spot{steps(p.X), steps(p.Y)}
}

func plus(x, y *big.Int) *big.Int  { return new(big.Int).Add(x, y) }
func minus(x, y *big.Int) *big.Int { return new(big.Int).Sub(x, y) }
func times(x, y *big.Int) *big.Int { return new(big.Int).Mul(x, y) }

func less(p, q spot) spot { return spot{minus(p.x, q.x), minus(p.y, q.y)} }

func square(p spot) *big.Int { return plus(times(p.x, p.x), times(p.y, p.y)) }

// turn is p.x q.y - p.y q.x.
func turn(p, q spot) *big.Int { return minus(times(p.x, q.y), times(p.y, q.x)) }

// twice is twice the area of a triangle, above 0 if it turns left.
func twice(a, b, c spot) *big.Int { return turn(less(b, a), less(c, a)) }

// nearer tells how d's distance from the middle of the circle through a, b and c
// is to a's: -1, if d lies within, 0 on it, 1 outside. The middle, seen from a, is two
// fractions over one whole number; all is told by so many of its parts.
func nearer(a, b, c, d spot) int {
	b, c, d = less(b, a), less(c, a), less(d, a)
	whole := times(big.NewInt(2), turn(b, c))
	middle := spot{
		minus(times(c.y, square(b)), times(b.y, square(c))),
		minus(times(b.x, square(c)), times(c.x, square(b))),
	}
	away := less(spot{times(d.x, whole), times(d.y, whole)}, middle)
	return square(away).Cmp(square(middle))
}

// model is a mesh as a list of triangles, and the edges that are fixed.
type model struct {
	points []api.Point
	spots  []spot
	tris   []api.Tri
	apexes map[[2]int]int
	fixes  map[[2]int]bool
}

func modelOf(points []api.Point, tris []api.Tri, fixes []api.Seg) *model {
	w := &model{points: points, fixes: map[[2]int]bool{}}
	for _, p := range points {
		w.spots = append(w.spots, spotOf(p))
	}
	for _, s := range fixes {
		w.fixes[[2]int{s.A, s.B}] = true
	}
	return w.with(tris)
}

// with is a model of the same points and fixed edges, of other triangles.
func (w *model) with(tris []api.Tri) *model {
	v := &model{points: w.points, spots: w.spots, fixes: w.fixes, tris: ownOrder(tris), apexes: map[[2]int]int{}}
	for _, t := range tris {
		for i := range t {
			v.apexes[[2]int{t[i], t[(i+1)%3]}] = t[(i+2)%3]
		}
	}
	return v
}

// ownOrder is a list of triangles in its own order.
func ownOrder(tris []api.Tri) []api.Tri {
	l := slices.Clone(tris)
	for i, t := range l {
		least := slices.Index(t[:], slices.Min(t[:]))
		l[i] = api.Tri{t[least], t[(least+1)%3], t[(least+2)%3]}
	}
	slices.SortFunc(l, func(s, u api.Tri) int { return slices.Compare(s[:], u[:]) })
	return l
}

func undirected(a, b int) [2]int { return [2]int{min(a, b), max(a, b)} }

func (w *model) fixed(a, b int) bool { return w.fixes[undirected(a, b)] }

func (w *model) there(a, b int) bool {
	_, there := w.apexes[[2]int{a, b}]
	_, turned := w.apexes[[2]int{b, a}]
	return there || turned
}

func (w *model) shared(a, b int) (c, d int, both bool) {
	c, there := w.apexes[[2]int{a, b}]
	d, turned := w.apexes[[2]int{b, a}]
	return c, d, there && turned
}

func (w *model) left(a, b, c int) bool { return twice(w.spots[a], w.spots[b], w.spots[c]).Sign() > 0 }

func (w *model) may(a, b int) bool {
	c, d, shared := w.shared(a, b)
	return shared && !w.fixed(a, b) && !w.there(c, d) && w.left(c, d, b) && w.left(d, c, a)
}

// outside tells whether the edge's apexes do not lie within the other triangle's
// circle.
func (w *model) outside(a, b, c, d int) bool {
	return nearer(w.spots[a], w.spots[b], w.spots[c], w.spots[d]) >= 0
}

func (w *model) inOrder(a, b int) bool {
	c, d, shared := w.shared(a, b)
	return !shared || w.fixed(a, b) || w.outside(a, b, c, d) || !w.may(a, b)
}

// turned is the mesh behind an edge that is turned.
func (w *model) turned(a, b int) *model {
	c, d, _ := w.shared(a, b)
	l := []api.Tri{{d, b, c}, {a, d, c}}
	goes := ownOrder([]api.Tri{{a, b, c}, {b, a, d}})
	for _, t := range w.tris {
		if !slices.Contains(goes, t) {
			l = append(l, t)
		}
	}
	return w.with(l)
}

// around are the four edges around an edge that is shared.
func (w *model) around(a, b int) [][2]int {
	c, d, _ := w.shared(a, b)
	return [][2]int{undirected(a, c), undirected(c, b), undirected(b, d), undirected(d, a)}
}

// edges are all that are there, the lesser number first, rising.
func (w *model) edges() [][2]int {
	var l [][2]int
	for e := range w.apexes {
		l = append(l, undirected(e[0], e[1]))
	}
	slices.SortFunc(l, func(e, f [2]int) int { return slices.Compare(e[:], f[:]) })
	return slices.Compact(l)
}

// wrong are the edges that are not in order.
func (w *model) wrong() [][2]int {
	return slices.DeleteFunc(w.edges(), func(e [2]int) bool { return w.inOrder(e[0], e[1]) })
}

func (w *model) corners() []int {
	var l []int
	for _, t := range w.tris {
		l = append(l, t[:]...)
	}
	slices.Sort(l)
	return slices.Compact(l)
}

// ground is twice the sum of all areas.
func (w *model) ground() *big.Int {
	sum := new(big.Int)
	for _, t := range w.tris {
		sum.Add(sum, twice(w.spots[t[0]], w.spots[t[1]], w.spots[t[2]]))
	}
	return sum
}

// pair is a mesh and its model.
type pair struct {
	m *mesh.Mesh
	w *model
}

func made(t *testing.T, points []api.Point, tris []api.Tri, fixes ...[2]int) pair {
	t.Helper()
	m, e := mesh.Of(points, tris)
	if e != api.OK {
		t.Fatalf("no mesh of %v, %v: %v", points, tris, e)
	}
	for i, f := range fixes {
		if e := m.Fix(f[0], f[1], i+5); e != api.OK {
			t.Fatalf("Fix of %v: %v", f, e)
		}
	}
	return pair{m, modelOf(points, tris, m.Fixes())}
}

func (x pair) copy() pair { return pair{x.m.Copy(), x.w} }

// answers are all that a mesh tells.
type answers struct {
	points        []api.Point
	tris          []api.Tri
	edges, border [][2]int
	fixes         []api.Seg
}

func told(m *mesh.Mesh) answers {
	return answers{m.Points(), m.Tris(), m.Edges(), m.Border(), m.Fixes()}
}

func (a answers) same(b answers) bool {
	return slices.Equal(a.points, b.points) && slices.Equal(a.tris, b.tris) && slices.Equal(a.edges, b.edges) &&
		slices.Equal(a.border, b.border) && slices.Equal(a.fixes, b.fixes)
}

// asked holds what is told of an edge, either way about, against the model.
func (x pair) asked(t *testing.T, a, b int) {
	t.Helper()
	for _, e := range [][2]int{{a, b}, {b, a}} {
		if got, want := flip.Delaunay(x.m, e[0], e[1]), x.w.inOrder(e[0], e[1]); got != want {
			t.Fatalf("Delaunay of %v: %v\npoints %x\ntriangles %v\nfixed %v", e, got, x.w.points, x.w.tris, x.w.fixes)
		}
		if got, want := flip.May(x.m, e[0], e[1]), x.w.may(e[0], e[1]); got != want {
			t.Fatalf("May of %v: %v\npoints %x\ntriangles %v\nfixed %v", e, got, x.w.points, x.w.tris, x.w.fixes)
		}
	}
}

// allAsked is asked of each two numbers of a small mesh, and of some beyond.
func (x pair) allAsked(t *testing.T) {
	t.Helper()
	for a := -2; a < len(x.w.points)+3; a++ {
		for b := -2; b <= a; b++ {
			x.asked(t, a, b)
		}
	}
}

// turns turns an edge of a copy, and holds what comes of it against the model,
// triangle by triangle; if it was turned, it is turned once more. It tells whether
// that was done (P17.1, P17.4, P17.5).
func (x pair) turns(t *testing.T, a, b int) bool {
	t.Helper()
	before := told(x.m)
	y := x.copy()
	c, d, shared := x.w.shared(a, b)
	want := api.OK
	switch {
	case !shared:
		want = api.ErrNone
	case !x.w.may(a, b):
		want = api.ErrMesh
	}
	if e := flip.Turn(y.m, a, b); e != want {
		t.Fatalf("Turn of %d, %d: %v; want %v\npoints %x\ntriangles %v", a, b, e, want, x.w.points, x.w.tris)
	}
	if want != api.OK {
		if !told(y.m).same(before) {
			t.Fatalf("Turn of %d, %d was refused, and has changed %v to %v", a, b, before, told(y.m))
		}
		return false
	}
	y.w = x.w.turned(a, b)
	y.agrees(t, before)
	if x.w.fixed(c, d) {
		return false
	}
	if e := flip.Turn(y.m, c, d); e != api.OK || !told(y.m).same(before) {
		t.Fatalf("Turn of %d, %d, and back: %v: %v; want %v", a, b, e, y.m.Tris(), before.tris)
	}
	return true
}

// agrees holds a mesh against its model, and all but its triangles and edges
// against what it was.
func (y pair) agrees(t *testing.T, before answers) {
	t.Helper()
	got := told(y.m)
	if !slices.Equal(got.tris, y.w.tris) || !slices.Equal(got.edges, y.w.edges()) {
		t.Fatalf("triangles %v; want %v", got.tris, y.w.tris)
	}
	if !slices.Equal(got.points, before.points) || !slices.Equal(got.fixes, before.fixes) || !slices.Equal(got.border, before.border) {
		t.Fatalf("told %v; there was %v", got, before)
	}
}
