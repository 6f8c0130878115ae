package walk_test

import (
	"math"
	"slices"
	"testing"

	"trivet/api"
	"trivet/mesh"
	"trivet/walk"
)

// square is the chapter's mesh.
func square(t *testing.T) pair {
	t.Helper()
	return made(t, []api.Point{at(0, 0), at(2, 0), at(0, 2), at(2, 2)}, []api.Tri{{0, 1, 2}, {1, 3, 2}})
}

// same holds what Find tells, for each seed, against one place.
func (x pair) same(t *testing.T, p api.Point, want walk.Place) {
	t.Helper()
	for _, seed := range seeds {
		if got, e := walk.Find(x.m, p, seed); got != want || e != api.OK {
			t.Errorf("Find of %x, seed %d: %v, %v; want %v", p, seed, got, e, want)
		}
	}
}

// inTheWay holds what is told from a to b against what is to be told.
func (x pair) inTheWay(t *testing.T, a, b int, edges [][2]int, corners []int) {
	t.Helper()
	if l, e := walk.Across(x.m, a, b); !slices.Equal(l, edges) || e != api.OK {
		t.Errorf("Across of %d, %d: %v, %v; want %v", a, b, l, e, edges)
	}
	if l, e := walk.Through(x.m, a, b); !slices.Equal(l, corners) || e != api.OK {
		t.Errorf("Through of %d, %d: %v, %v; want %v", a, b, l, e, corners)
	}
}

// The chapter's examples.
func TestExamples(t *testing.T) {
	x := square(t)
	x.same(t, at(0, 0), walk.Place{Kind: api.OnPoint, A: 0})
	x.same(t, at(1, 1), walk.Place{Kind: api.OnEdge, A: 1, B: 2})
	x.same(t, at(0.5, 0.5), walk.Place{Kind: api.Inside, A: 0, B: 1, C: 2})
	x.same(t, at(3, 0), walk.Place{Kind: api.Outside})
	x.inTheWay(t, 0, 3, [][2]int{{1, 2}}, nil)
	five := made(t, append(x.w.points, at(1, 1)), x.w.tris)
	five.inTheWay(t, 0, 3, [][2]int{{1, 2}}, nil)
}

// All of the square, by name.
func TestSquare(t *testing.T) {
	x := square(t)
	for i, p := range x.w.points {
		x.same(t, p, walk.Place{Kind: api.OnPoint, A: i})
	}
	minus := math.Copysign(0, -1)
	x.same(t, at(minus, minus), walk.Place{Kind: api.OnPoint, A: 0})
	x.same(t, at(2, minus), walk.Place{Kind: api.OnPoint, A: 1})
	x.same(t, at(1, minus), walk.Place{Kind: api.OnEdge, A: 0, B: 1})
	x.same(t, at(0, 0x1p-100), walk.Place{Kind: api.OnEdge, A: 0, B: 2})
	x.same(t, at(2, 1.5), walk.Place{Kind: api.OnEdge, A: 1, B: 3})
	x.same(t, at(0.25, 2), walk.Place{Kind: api.OnEdge, A: 2, B: 3})
	x.same(t, at(1.5, 0.5), walk.Place{Kind: api.OnEdge, A: 1, B: 2})
	x.same(t, at(1.5, 1.5), walk.Place{Kind: api.Inside, A: 1, B: 3, C: 2})
	for _, p := range []api.Point{at(3, 3), at(-1, 0), at(0, 3), at(2, -0x1p-100), at(0x1p100, -0x1p100), at(-1, 3), at(4, -2)} {
		x.same(t, p, walk.Place{Kind: api.Outside})
	}
	x.inTheWay(t, 3, 0, [][2]int{{1, 2}}, nil)
	x.inTheWay(t, 1, 2, nil, nil)
	x.inTheWay(t, 0, 1, nil, nil)
}

// answers are all that a mesh tells.
type answers struct {
	points        []api.Point
	tris          []api.Tri
	edges, border [][2]int
	fixes         []api.Seg
}

func told(m *mesh.Mesh) answers {
	return answers{m.Points(), m.Tris(), m.Edges(), m.Border(), m.Fixes()}
}

func (a answers) same(b answers) bool {
	return slices.Equal(a.points, b.points) && slices.Equal(a.tris, b.tris) && slices.Equal(a.edges, b.edges) &&
		slices.Equal(a.border, b.border) && slices.Equal(a.fixes, b.fixes)
}

// spoil writes over a list, its spare room too.
func spoil[T any](l []T, x T) {
	l = l[:cap(l)]
	for i := range l {
		l[i] = x
	}
}

// Behind each call the mesh is as it was, its fixed edges too, also behind what is
// written into the lists that were handed out (R3).
func TestHandedOut(t *testing.T) {
	var points []api.Point
	for i := range 9 {
		points = append(points, at(float64(i%3), float64(i/3)))
	}
	x := made(t, append(points, at(0, -3), at(0, 5)), []api.Tri{
		{0, 1, 3}, {1, 4, 3}, {1, 2, 4}, {2, 5, 4}, {3, 4, 6}, {4, 7, 6}, {4, 5, 7}, {5, 8, 7}})
	x.m.Fix(0, 8, 5)
	x.m.Fix(4, 1, 6)
	before := told(x.m)
	for range 3 {
		for a := range 11 {
			for b := range 11 {
				x.asked(t, a, b)
				edges, _ := walk.Across(x.m, a, b)
				spoil(edges, [2]int{-7, -8})
				corners, _ := walk.Through(x.m, a, b)
				spoil(corners, -7)
			}
		}
		for _, p := range points {
			x.found(t, p, seeds...)
			x.found(t, at(p.X+0.25, p.Y+0.5), seeds...)
		}
		if !told(x.m).same(before) {
			t.Fatal("the mesh is another one")
		}
	}
}

// What a list was is all the same when the next one is asked for: lists of one mesh
// share nothing.
func TestListsApart(t *testing.T) {
	x := square(t)
	x.m.Add(at(1, 1))
	x.m.Kill(0, 1, 2)
	x.m.Make(0, 1, 4)
	x.m.Make(0, 4, 2)
	first, _ := walk.Through(x.m, 1, 2)
	second, _ := walk.Through(x.m, 1, 2)
	edges, _ := walk.Across(x.m, 0, 3)
	again, _ := walk.Across(x.m, 0, 3)
	spoil(first, -7)
	spoil(edges, [2]int{-7, -8})
	if !slices.Equal(second, []int{4}) || !slices.Equal(again, [][2]int{{1, 2}}) {
		t.Error(second, again)
	}
}
