package flip_test

import (
	"slices"
	"testing"

	"trivet/api"
	"trivet/flip"
)

// house is the chapter's mesh.
func house(t *testing.T) pair {
	t.Helper()
	return made(t, []api.Point{at(0, 0), at(4, 0), at(4, 1), at(0, 1), at(2, 9)}, []api.Tri{{0, 1, 3}, {1, 2, 3}, {3, 2, 4}})
}

// says holds what is told of an edge, either way about, against what is to be told.
func (x pair) says(t *testing.T, a, b int, delaunay, may bool) {
	t.Helper()
	x.asked(t, a, b)
	if got := flip.Delaunay(x.m, a, b); got != delaunay {
		t.Errorf("Delaunay of %d, %d: %v", a, b, got)
	}
	if got := flip.May(x.m, a, b); got != may {
		t.Errorf("May of %d, %d: %v", a, b, got)
	}
}

// has wants just these triangles, in their own order.
func (x pair) has(t *testing.T, tris ...api.Tri) {
	t.Helper()
	if got := x.m.Tris(); !slices.Equal(got, tris) {
		t.Errorf("triangles %v; want %v", got, tris)
	}
}

// turn wants what Turn answers.
func (x pair) turn(t *testing.T, a, b int, want api.Errno) {
	t.Helper()
	if e := flip.Turn(x.m, a, b); e != want {
		t.Errorf("Turn of %d, %d: %v; want %v", a, b, e, want)
	}
}

// settle wants how many edges of a list are turned.
func (x pair) settle(t *testing.T, want int, l ...[2]int) {
	t.Helper()
	if n := x.settles(t, l); n != want {
		t.Errorf("Settle of %v: %d; want %d", l, n, want)
	}
}

// all wants how many edges are turned of all.
func (x pair) all(t *testing.T, want int) {
	t.Helper()
	if n, e := flip.All(x.m); n != want || e != api.OK {
		t.Errorf("All: %d, %v; want %d", n, e, want)
	}
}

// The chapter's first example.
func TestExampleTurn(t *testing.T) {
	x := house(t)
	x.says(t, 1, 3, true, true)
	x.turn(t, 0, 1, api.ErrNone)
	x.turn(t, 1, 3, api.OK)
	x.has(t, api.Tri{0, 1, 2}, api.Tri{0, 2, 3}, api.Tri{2, 4, 3})
	x.turn(t, 0, 1, api.ErrNone)
	y := house(t)
	y.m.Fix(1, 3, 7)
	y.turn(t, 1, 3, api.ErrMesh)
	y.turn(t, 3, 1, api.ErrMesh)
	y.has(t, api.Tri{0, 1, 3}, api.Tri{1, 2, 3}, api.Tri{2, 4, 3})
}

// crooked is the mesh of the chapter's second example.
func crooked(t *testing.T, fixes ...[2]int) pair {
	t.Helper()
	return made(t, []api.Point{at(0, 0), at(9, 0), at(9, 9), at(1, 2)}, []api.Tri{{0, 1, 2}, {0, 2, 3}}, fixes...)
}

// The chapter's second example.
func TestExampleAll(t *testing.T) {
	x := crooked(t)
	x.says(t, 0, 2, false, true)
	x.all(t, 1)
	x.has(t, api.Tri{0, 1, 3}, api.Tri{1, 2, 3})
	x.all(t, 0)
}

// All of the house, by name.
func TestHouse(t *testing.T) {
	x := house(t)
	x.says(t, 2, 3, true, true)
	for _, e := range [][2]int{{0, 1}, {1, 2}, {2, 4}, {4, 3}, {3, 0}} {
		x.says(t, e[0], e[1], true, false)
		x.turn(t, e[0], e[1], api.ErrNone)
		x.turn(t, e[1], e[0], api.ErrNone)
	}
	for _, e := range [][2]int{{0, 2}, {0, 4}, {1, 4}, {0, 0}, {3, 3}} {
		x.says(t, e[0], e[1], true, false)
		x.turn(t, e[0], e[1], api.ErrNone)
		x.turn(t, e[1], e[0], api.ErrNone)
	}
	x.all(t, 0)
	x.turn(t, 3, 2, api.OK)
	x.has(t, api.Tri{0, 1, 3}, api.Tri{1, 2, 4}, api.Tri{1, 4, 3})
	x.turn(t, 4, 1, api.OK)
	x.has(t, api.Tri{0, 1, 3}, api.Tri{1, 2, 3}, api.Tri{2, 4, 3})
	x.turn(t, 1, 3, api.OK)
	x.turn(t, 2, 0, api.OK)
	x.has(t, api.Tri{0, 1, 3}, api.Tri{1, 2, 3}, api.Tri{2, 4, 3})
}

// Settle of a list: what is not in it is left as it is, unless it lies around an edge
// that was turned.
func TestSettle(t *testing.T) {
	x := made(t, []api.Point{at(0, 0), at(4, 0), at(4, 1), at(0, 1), at(2, 9)}, []api.Tri{{0, 1, 3}, {1, 2, 4}, {1, 4, 3}})
	x.says(t, 1, 4, false, true)
	x.says(t, 1, 3, true, true)
	x.settle(t, 0)
	x.settle(t, 0, [2]int{1, 3}, [2]int{0, 2}, [2]int{3, 4})
	x.has(t, api.Tri{0, 1, 3}, api.Tri{1, 2, 4}, api.Tri{1, 4, 3})
	x.settle(t, 1, [2]int{4, 1})
	x.has(t, api.Tri{0, 1, 3}, api.Tri{1, 2, 3}, api.Tri{2, 4, 3})
}

// One edge is not in order; behind each turn one of the four around is not, whichever
// of them: so the first one alone lets all of a strip be turned.
func TestAround(t *testing.T) {
	for _, y := range []struct{ low, high int }{{1, 1}, {2, 1}, {1, 2}, {3, 3}, {9, 5}, {5, 9}, {30, 40}} {
		path := slices.Concat(slices.Repeat([]bool{true}, y.high), slices.Repeat([]bool{false}, y.low))
		x, squares := strip(t, path, float64(y.low+1))
		if wrong := x.w.wrong(); squares != y.low*y.high || len(wrong) != 1 {
			t.Fatal("no such strip:", squares, wrong)
		}
		for _, mirrored := range []bool{false, true} {
			z := x.copy()
			e := x.w.wrong()[0]
			if mirrored {
				e = [2]int{e[1], e[0]}
			}
			z.settle(t, squares, e)
			z.settle(t, 0, e)
			z.all(t, 0)
		}
	}
}
