package mesh_test

import (
	"math"
	"math/big"
	"slices"
	"testing"

	"trivet/api"
	"trivet/mesh"
)

func at(x, y float64) api.Point { return api.Point{X: x, Y: y} }

// model is a mesh as the chapter tells it: lists, which are gone over from their
// beginning for whatever is asked.
type model struct {
	points []api.Point
	tris   []api.Tri // as they were made
	fixes  []api.Seg // the lesser number as A, as they were fixed
}

func (w *model) copy() *model {
	return &model{slices.Clone(w.points), slices.Clone(w.tris), slices.Clone(w.fixes)}
}

func (w *model) has(numbers ...int) bool {
	return !slices.ContainsFunc(numbers, func(i int) bool { return i < 0 || i >= len(w.points) })
}

// turnsLeft reckons with fractions.
func turnsLeft(a, b, c api.Point) bool {
	times := func(x, from, y, to float64) *big.Rat {
		less := func(x, y float64) *big.Rat {
			return new(big.Rat).Sub(new(big.Rat).SetFloat64(x), new(big.Rat).SetFloat64(y))
		}
		return new(big.Rat).Mul(less(x, from), less(y, to))
	}
	return times(b.X, a.X, c.Y, a.Y).Cmp(times(b.Y, a.Y, c.X, a.X)) > 0
}

// turned is a triangle from another corner on.
func turned(t api.Tri, by int) api.Tri { return api.Tri{t[by%3], t[(by+1)%3], t[(by+2)%3]} }

func (w *model) apex(a, b int) (int, bool) {
	for _, t := range w.tris {
		for by := range 3 {
			if c := turned(t, by); c[0] == a && c[1] == b {
				return c[2], true
			}
		}
	}
	return 0, false
}

func (w *model) add(p api.Point, wrong bool) (int, api.Errno) {
	if wrong {
		return 0, api.ErrRange
	}
	w.points = append(w.points, p)
	return len(w.points) - 1, api.OK
}

func (w *model) make(a, b, c int) api.Errno {
	if !w.has(a, b, c) {
		return api.ErrIndex
	}
	if !turnsLeft(w.points[a], w.points[b], w.points[c]) {
		return api.ErrMesh
	}
	for by := range 3 {
		t := turned(api.Tri{a, b, c}, by)
		if _, there := w.apex(t[0], t[1]); there {
			return api.ErrMesh
		}
	}
	w.tris = append(w.tris, api.Tri{a, b, c})
	return api.OK
}

func (w *model) kill(a, b, c int) api.Errno {
	for i, t := range w.tris {
		for by := range 3 {
			if turned(t, by) == (api.Tri{a, b, c}) {
				w.tris = slices.Delete(w.tris, i, i+1)
				return api.OK
			}
		}
	}
	return api.ErrNone
}

func (w *model) fixedAt(a, b int) int {
	return slices.IndexFunc(w.fixes, func(s api.Seg) bool { return s.A == a && s.B == b || s.A == b && s.B == a })
}

func (w *model) fix(a, b, mark int) api.Errno {
	switch {
	case !w.has(a, b):
		return api.ErrIndex
	case a == b:
		return api.ErrArg
	}
	w.loose(a, b)
	w.fixes = append(w.fixes, api.Seg{A: min(a, b), B: max(a, b), Mark: mark})
	return api.OK
}

func (w *model) loose(a, b int) bool {
	i := w.fixedAt(a, b)
	if i >= 0 {
		w.fixes = slices.Delete(w.fixes, i, i+1)
	}
	return i >= 0
}

func (w *model) fixed(a, b int) (int, bool) {
	if i := w.fixedAt(a, b); i >= 0 {
		return w.fixes[i].Mark, true
	}
	return 0, false
}

// answers are all that a mesh tells without being asked for a number, and the
// spokes of each of its points.
type answers struct {
	length, count int
	points        []api.Point
	tris          []api.Tri
	edges, border [][2]int
	fixes         []api.Seg
	spokes        [][]int
}

func told(m *mesh.Mesh) answers {
	a := answers{m.Len(), m.Count(), m.Points(), m.Tris(), m.Edges(), m.Border(), m.Fixes(), nil}
	for i := range m.Len() {
		a.spokes = append(a.spokes, m.Spokes(i))
	}
	return a
}

func (w *model) told() answers {
	a := answers{length: len(w.points), count: len(w.tris), points: w.points}
	directed := map[[2]int]struct{}{}
	for _, t := range w.tris {
		least := slices.Index(t[:], min(t[0], t[1], t[2]))
		a.tris = append(a.tris, turned(t, least))
		for by := range 3 {
			t := turned(t, by)
			directed[[2]int{t[0], t[1]}] = struct{}{}
		}
	}
	a.spokes = make([][]int, len(w.points))
	for e := range directed {
		_, both := directed[[2]int{e[1], e[0]}]
		if !both {
			a.border = append(a.border, e)
		}
		if !both || e[0] < e[1] {
			a.edges = append(a.edges, [2]int{min(e[0], e[1]), max(e[0], e[1])})
			a.spokes[e[0]] = append(a.spokes[e[0]], e[1])
			a.spokes[e[1]] = append(a.spokes[e[1]], e[0])
		}
	}
	a.fixes = slices.Clone(w.fixes)
	slices.SortFunc(a.fixes, func(s, u api.Seg) int { return slices.Compare([]int{s.A, s.B}, []int{u.A, u.B}) })
	slices.SortFunc(a.tris, func(s, u api.Tri) int { return slices.Compare(s[:], u[:]) })
	for _, l := range [][][2]int{a.edges, a.border} {
		slices.SortFunc(l, func(s, u [2]int) int { return slices.Compare(s[:], u[:]) })
	}
	for _, l := range a.spokes {
		slices.Sort(l)
	}
	return a
}

func (a answers) same(b answers) bool {
	return a.length == b.length && a.count == b.count && slices.Equal(a.points, b.points) &&
		slices.Equal(a.tris, b.tris) && slices.Equal(a.edges, b.edges) && slices.Equal(a.border, b.border) &&
		slices.Equal(a.fixes, b.fixes) && slices.EqualFunc(a.spokes, b.spokes, slices.Equal[[]int])
}

// spoil writes over a list, its spare room too.
func spoil[T any](l []T, x T) {
	l = l[:cap(l)]
	for i := range l {
		l[i] = x
	}
}

func (a answers) spoil() {
	spoil(a.points, at(math.NaN(), math.Inf(1)))
	spoil(a.tris, api.Tri{-7, -8, -9})
	spoil(a.edges, [2]int{-7, -8})
	spoil(a.border, [2]int{-7, -8})
	spoil(a.fixes, api.Seg{A: -7, B: -8, Mark: -9})
	for _, l := range a.spokes {
		spoil(l, -7)
	}
}

// oddNumbers are of no point, but the first ones of a mesh that has some.
func oddNumbers(n int) []int {
	return []int{0, 1, n, n + 1, -1, -2, math.MinInt, math.MaxInt, 1 << 32, 1<<32 + 1, -1 << 32}
}

// agree holds all that a mesh tells against the model, and what it tells of each
// two of some numbers. What is handed out is written over, and asked for again.
func agree(t *testing.T, m *mesh.Mesh, w *model, numbers []int) {
	t.Helper()
	want := w.told()
	for range 2 {
		got := told(m)
		if !got.same(want) {
			t.Fatalf("told: %+v\nwant: %+v", got, want)
		}
		got.spoil()
	}
	for _, a := range numbers {
		if p, ok := m.Point(a); ok != w.has(a) || ok && p != w.points[a] || !ok && p != (api.Point{}) {
			t.Fatal("Point:", a, p, ok)
		}
		if !w.has(a) && len(m.Spokes(a)) > 0 {
			t.Fatal("Spokes:", a, m.Spokes(a))
		}
		for _, b := range numbers {
			twoAgree(t, m, w, a, b)
		}
	}
}

func twoAgree(t *testing.T, m *mesh.Mesh, w *model, a, b int) {
	t.Helper()
	c, there := m.Apex(a, b)
	if want, wantThere := w.apex(a, b); c != want || there != wantThere {
		t.Fatalf("Apex of %d, %d: %d, %v; want %d, %v", a, b, c, there, want, wantThere)
	}
	mark, fixed := m.Fixed(a, b)
	if want, wantFixed := w.fixed(a, b); mark != want || fixed != wantFixed {
		t.Fatalf("Fixed of %d, %d: %d, %v; want %d, %v", a, b, mark, fixed, want, wantFixed)
	}
}

// allAgree is agree with all numbers of a small mesh, and others.
func allAgree(t *testing.T, m *mesh.Mesh, w *model) {
	t.Helper()
	numbers := oddNumbers(len(w.points))
	for i := range w.points {
		numbers = append(numbers, i)
	}
	agree(t, m, w, numbers)
}

// pair is a mesh, and what it must tell. What is done is done to both.
type pair struct {
	*mesh.Mesh
	w *model
}

func (x pair) add(t *testing.T, p api.Point, wrong bool) {
	t.Helper()
	n, e := x.Add(p)
	if want, wantE := x.w.add(p, wrong); n != want || e != wantE {
		t.Fatalf("Add of %v: %d, %v; want %d, %v", p, n, e, want, wantE)
	}
}

func (x pair) make(t *testing.T, c api.Tri) api.Errno {
	t.Helper()
	e := x.Make(c[0], c[1], c[2])
	if want := x.w.make(c[0], c[1], c[2]); e != want {
		t.Fatalf("Make of %v: %v; want %v; there are %v", c, e, want, x.w.tris)
	}
	return e
}

func (x pair) kill(t *testing.T, c api.Tri) api.Errno {
	t.Helper()
	e := x.Kill(c[0], c[1], c[2])
	if want := x.w.kill(c[0], c[1], c[2]); e != want {
		t.Fatalf("Kill of %v: %v; want %v; there are %v", c, e, want, x.w.tris)
	}
	return e
}

func (x pair) fix(t *testing.T, a, b, mark int) api.Errno {
	t.Helper()
	e := x.Fix(a, b, mark)
	if want := x.w.fix(a, b, mark); e != want {
		t.Fatalf("Fix of %d, %d: %v; want %v", a, b, e, want)
	}
	return e
}

func (x pair) loose(t *testing.T, a, b int) {
	t.Helper()
	was := x.Loose(a, b)
	if want := x.w.loose(a, b); was != want {
		t.Fatalf("Loose of %d, %d: %v; want %v", a, b, was, want)
	}
}

// roomy is a list with something behind its end that nobody may look at.
func roomy[T any](l []T, behind T) []T {
	return append(slices.Clone(l), behind, behind)[:len(l)]
}

// made is a mesh of points and triangles that are handed in with room behind, and
// written over when it is there.
func made(t *testing.T, points []api.Point, tris []api.Tri) pair {
	t.Helper()
	wrong, none := at(math.NaN(), math.Inf(-1)), api.Tri{-7, -7, -7}
	p, l := roomy(points, wrong), roomy(tris, none)
	m, e := mesh.Of(p, l)
	if e != api.OK || m == nil {
		t.Fatalf("Of %v, %v: %v", points, tris, e)
	}
	if !slices.Equal(p, points) || !slices.Equal(l, tris) || l[:len(l)+1][len(l)] != none || !math.IsNaN(p[:len(p)+1][len(p)].X) {
		t.Fatal("Of changed what it was handed:", p, l)
	}
	spoil(p, wrong)
	spoil(l, none)
	return pair{m, &model{points: slices.Clone(points), tris: slices.Clone(tris)}}
}

// bare is a mesh of points alone, by New.
func bare(t *testing.T, points []api.Point) pair {
	t.Helper()
	wrong := at(math.NaN(), math.Inf(-1))
	p := roomy(points, wrong)
	m, e := mesh.New(p)
	if e != api.OK || m == nil {
		t.Fatalf("New %v: %v", points, e)
	}
	if !slices.Equal(p, points) || !math.IsNaN(p[:len(p)+1][len(p)].X) {
		t.Fatal("New changed what it was handed:", p)
	}
	spoil(p, wrong)
	return pair{m, &model{points: slices.Clone(points)}}
}
