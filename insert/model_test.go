package insert_test

import (
	"math/big"
	"slices"
	"testing"

	"trivet/api"
	"trivet/mesh"
	"trivet/walk"
)

func at(x, y float64) api.Point { return api.Point{X: x, Y: y} }

// spot is a point in whole steps of 2^-100.
type spot struct{ x, y *big.Int }

func spotOf(p api.Point) spot {
	steps := func(x float64) *big.Int {
		exact := new(big.Rat).SetFloat64(x)
		exact.Mul(exact, new(big.Rat).SetInt(new(big.Int).Lsh(big.NewInt(1), 100)))
		if !exact.IsInt() {
			panic("a coordinate that may not be")
		}
		return exact.Num()
	}
	return spot{steps(p.X), steps(p.Y)}
}

func plus(x, y *big.Int) *big.Int  { return new(big.Int).Add(x, y) }
func minus(x, y *big.Int) *big.Int { return new(big.Int).Sub(x, y) }
func times(x, y *big.Int) *big.Int { return new(big.Int).Mul(x, y) }

func less(p, q spot) spot { return spot{minus(p.x, q.x), minus(p.y, q.y)} }

func square(p spot) *big.Int { return plus(times(p.x, p.x), times(p.y, p.y)) }

func (p spot) alike(q spot) bool { return p.x.Cmp(q.x) == 0 && p.y.Cmp(q.y) == 0 }

// turn is p.x q.y - p.y q.x, along is p.x q.x + p.y q.y.
func turn(p, q spot) *big.Int  { return minus(times(p.x, q.y), times(p.y, q.x)) }
func along(p, q spot) *big.Int { return plus(times(p.x, q.x), times(p.y, q.y)) }

// twice is twice the area of a triangle, above 0 if it turns left.
func twice(a, b, c spot) *big.Int { return turn(less(b, a), less(c, a)) }

// between: seen from p, the ends lie on one line with it, in opposite directions.
func between(a, b, p spot) bool {
	toA, toB := less(a, p), less(b, p)
	return turn(toA, toB).Sign() == 0 && along(toA, toB).Sign() < 0
}

// nearer tells how d's distance from the middle of the circle through a, b and c
// is to a's: -1, if d lies within, 0 on it, 1 outside. The middle, seen from a, is two
// fractions over one whole number; all is told by so many of its parts.
func nearer(a, b, c, d spot) int {
	b, c, d = less(b, a), less(c, a), less(d, a)
	whole := times(big.NewInt(2), turn(b, c))
	middle := spot{
		minus(times(c.y, square(b)), times(b.y, square(c))),
		minus(times(b.x, square(c)), times(c.x, square(b))),
	}
	away := less(spot{times(d.x, whole), times(d.y, whole)}, middle)
	return square(away).Cmp(square(middle))
}

// model is a mesh as a list of triangles, and the edges that are fixed.
type model struct {
	points []api.Point
	spots  []spot
	tris   []api.Tri
	apexes map[[2]int]int
	fixes  map[[2]int]int
}

func modelOf(points []api.Point, tris []api.Tri, fixes []api.Seg) *model {
	w := &model{fixes: map[[2]int]int{}}
	for _, p := range points {
		w.points = append(w.points, p)
		w.spots = append(w.spots, spotOf(p))
	}
	for _, s := range fixes {
		w.fixes[undirected(s.A, s.B)] = s.Mark
	}
	return w.with(tris)
}

// with is a model of the same points and fixed edges, of other triangles.
func (w *model) with(tris []api.Tri) *model {
	v := &model{points: w.points, spots: w.spots, fixes: w.fixes, tris: ownOrder(tris), apexes: map[[2]int]int{}}
	for _, t := range tris {
		v.put(t)
	}
	return v
}

func (w *model) put(t api.Tri) {
	for i := range t {
		w.apexes[[2]int{t[i], t[(i+1)%3]}] = t[(i+2)%3]
	}
}

// ownOrder is a list of triangles in its own order.
func ownOrder(tris []api.Tri) []api.Tri {
	l := slices.Clone(tris)
	for i, t := range l {
		least := slices.Index(t[:], slices.Min(t[:]))
		l[i] = api.Tri{t[least], t[(least+1)%3], t[(least+2)%3]}
	}
	slices.SortFunc(l, func(s, u api.Tri) int { return slices.Compare(s[:], u[:]) })
	return l
}

func undirected(a, b int) [2]int { return [2]int{min(a, b), max(a, b)} }

func (w *model) fixed(a, b int) bool {
	_, fixed := w.fixes[undirected(a, b)]
	return fixed
}

func (w *model) there(a, b int) bool {
	_, there := w.apexes[[2]int{a, b}]
	_, turned := w.apexes[[2]int{b, a}]
	return there || turned
}

func (w *model) shared(a, b int) (c, d int, both bool) {
	c, there := w.apexes[[2]int{a, b}]
	d, turned := w.apexes[[2]int{b, a}]
	return c, d, there && turned
}

func (w *model) side(a, b, c int) int { return twice(w.spots[a], w.spots[b], w.spots[c]).Sign() }

func (w *model) may(a, b int) bool {
	c, d, shared := w.shared(a, b)
	return shared && !w.fixed(a, b) && !w.there(c, d) && w.side(c, d, b) > 0 && w.side(d, c, a) > 0
}

func (w *model) inOrder(a, b int) bool {
	c, d, shared := w.shared(a, b)
	return !shared || w.fixed(a, b) || nearer(w.spots[a], w.spots[b], w.spots[c], w.spots[d]) >= 0 || !w.may(a, b)
}

// edges are all that are there, the lesser number first, rising.
func (w *model) edges() [][2]int {
	var l [][2]int
	for e := range w.apexes {
		l = append(l, undirected(e[0], e[1]))
	}
	slices.SortFunc(l, func(e, f [2]int) int { return slices.Compare(e[:], f[:]) })
	return slices.Compact(l)
}

func (w *model) border() [][2]int {
	var l [][2]int
	for e := range w.apexes {
		if _, turned := w.apexes[[2]int{e[1], e[0]}]; !turned {
			l = append(l, e)
		}
	}
	slices.SortFunc(l, func(e, f [2]int) int { return slices.Compare(e[:], f[:]) })
	return l
}

// wrong are the edges that are not in order.
func (w *model) wrong() [][2]int {
	return slices.DeleteFunc(w.edges(), func(e [2]int) bool { return w.inOrder(e[0], e[1]) })
}

func (w *model) corners() []int {
	var l []int
	for _, t := range w.tris {
		l = append(l, t[:]...)
	}
	slices.Sort(l)
	return slices.Compact(l)
}

// ground is twice the sum of all areas.
func (w *model) ground() *big.Int {
	sum := new(big.Int)
	for _, t := range w.tris {
		sum.Add(sum, twice(w.spots[t[0]], w.spots[t[1]], w.spots[t[2]]))
	}
	return sum
}

// places are all that a point has.
func (w *model) places(p api.Point) []walk.Place {
	var l []walk.Place
	s := spotOf(p)
	for _, c := range w.corners() {
		if w.spots[c].alike(s) {
			l = append(l, walk.Place{Kind: api.OnPoint, A: c})
		}
	}
	for _, e := range w.edges() {
		if between(w.spots[e[0]], w.spots[e[1]], s) {
			l = append(l, walk.Place{Kind: api.OnEdge, A: e[0], B: e[1]})
		}
	}
	for _, t := range w.tris {
		a, b, c := w.spots[t[0]], w.spots[t[1]], w.spots[t[2]]
		if twice(a, b, s).Sign() > 0 && twice(b, c, s).Sign() > 0 && twice(c, a, s).Sign() > 0 {
			l = append(l, walk.Place{Kind: api.Inside, A: t[0], B: t[1], C: t[2]})
		}
	}
	if len(l) == 0 {
		return []walk.Place{{Kind: api.Outside}}
	}
	return l
}

// taken is what a mesh is when a point has been taken in at its place, and no edge
// was turned yet: and which triangles came.
func (w *model) taken(p api.Point, place walk.Place) (*model, []api.Tri, api.Errno) {
	goes, comes, wrong := w.change(p, place)
	if len(w.tris) == 0 {
		wrong = api.ErrNone
	}
	if wrong != api.OK {
		return nil, nil, wrong
	}
	if len(w.points) == api.MaxPoints {
		return nil, nil, api.ErrFull
	}
	l := slices.DeleteFunc(slices.Clone(w.tris), func(t api.Tri) bool { return slices.Contains(goes, t) })
	n := len(w.points)
	v := &model{points: append(slices.Clone(w.points), p), spots: append(slices.Clone(w.spots), spotOf(p)), fixes: map[[2]int]int{}}
	for e, mark := range w.fixes {
		if place.Kind == api.OnEdge && e == [2]int{place.A, place.B} {
			v.fixes[[2]int{place.A, n}], v.fixes[[2]int{place.B, n}] = mark, mark
		} else {
			v.fixes[e] = mark
		}
	}
	return v.with(append(l, comes...)), comes, api.OK
}

// change are the triangles that go, each from its least corner on, and that come.
func (w *model) change(p api.Point, place walk.Place) (goes, comes []api.Tri, wrong api.Errno) {
	n := len(w.points)
	a, b, c := place.A, place.B, place.C
	switch place.Kind {
	case api.OnPoint:
		return nil, nil, api.ErrTwice
	case api.Inside:
		return []api.Tri{{a, b, c}}, []api.Tri{{a, b, n}, {b, c, n}, {c, a, n}}, api.OK
	case api.OnEdge:
		for _, e := range [][2]int{{a, b}, {b, a}} {
			if c, there := w.apexes[e]; there {
				goes = append(goes, api.Tri{e[0], e[1], c})
				comes = append(comes, api.Tri{e[0], n, c}, api.Tri{n, e[1], c})
			}
		}
		return ownOrder(goes), comes, api.OK
	}
	v := w.with(w.tris)
	for _, e := range w.border() {
		if twice(w.spots[e[0]], w.spots[e[1]], spotOf(p)).Sign() >= 0 {
			continue
		}
		for _, f := range [][2]int{{e[1], e[0]}, {e[0], n}, {n, e[1]}} {
			if _, there := v.apexes[f]; there {
				return nil, nil, api.ErrMesh
			}
		}
		comes = append(comes, api.Tri{e[1], e[0], n})
		v.put(api.Tri{e[1], e[0], n})
	}
	if comes == nil {
		return nil, nil, api.ErrMesh
	}
	return nil, comes, api.OK
}

// pair is a mesh and its model.
type pair struct {
	m *mesh.Mesh
	w *model
}

func made(t *testing.T, points []api.Point, tris []api.Tri, fixes ...[2]int) pair {
	t.Helper()
	m, e := mesh.Of(points, tris)
	if e != api.OK {
		t.Fatalf("no mesh of %v, %v: %v", points, tris, e)
	}
	for i, f := range fixes {
		if e := m.Fix(f[0], f[1], i+5); e != api.OK {
			t.Fatalf("Fix of %v: %v", f, e)
		}
	}
	return pair{m, modelOf(m.Points(), tris, m.Fixes())}
}

func (x pair) copy() pair { return pair{x.m.Copy(), x.w} }

// answers are all that a mesh tells.
type answers struct {
	points        []api.Point
	tris          []api.Tri
	edges, border [][2]int
	fixes         []api.Seg
}

func told(m *mesh.Mesh) answers {
	return answers{m.Points(), m.Tris(), m.Edges(), m.Border(), m.Fixes()}
}

func (a answers) same(b answers) bool {
	return slices.Equal(a.points, b.points) && slices.Equal(a.tris, b.tris) && slices.Equal(a.edges, b.edges) &&
		slices.Equal(a.border, b.border) && slices.Equal(a.fixes, b.fixes)
}
