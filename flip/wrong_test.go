package flip_test

import (
	"math"
	"testing"

	"trivet/api"
	"trivet/flip"
	"trivet/mesh"
)

// oddNumbers are of no point of a mesh that has n.
func oddNumbers(n int) []int {
	return []int{n, n + 1, -1, -2, math.MinInt, math.MaxInt, 1 << 32, 1<<32 + 1, -1 << 32, 1 << 20}
}

// oddLists name nothing of a mesh of n points.
func oddLists(n int) [][][2]int {
	l := [][][2]int{nil, {}, {{0, 0}}}
	var all [][2]int
	for _, a := range oddNumbers(n) {
		for _, b := range append(oddNumbers(n), 0, 1) {
			all = append(all, [2]int{a, b}, [2]int{b, a})
		}
		l = append(l, [][2]int{{a, 0}}, [][2]int{{0, a}}, [][2]int{{a, a}})
	}
	return append(l, all)
}

// A nil mesh is told ahead of whatever else is wrong.
func TestNilMesh(t *testing.T) {
	for _, a := range append(oddNumbers(4), 0, 1) {
		for _, b := range append(oddNumbers(4), 0, 1) {
			if flip.Delaunay(nil, a, b) || flip.May(nil, a, b) {
				t.Error("an edge of a nil mesh:", a, b)
			}
			if e := flip.Turn(nil, a, b); e != api.ErrNil {
				t.Error("Turn:", a, b, e)
			}
		}
	}
	for _, l := range append(oddLists(0), [][2]int{{0, 1}, {1, 2}}) {
		if n, e := flip.Settle(nil, l); n != 0 || e != api.ErrNil {
			t.Error("Settle:", l, n, e)
		}
	}
	if n, e := flip.All(nil); n != 0 || e != api.ErrNil {
		t.Error("All:", n, e)
	}
}

// Numbers of no point are of no edge that is shared: in order, not to be turned, and
// nothing to be settled, in whatever mesh.
func TestNumbersOfNoPoint(t *testing.T) {
	for _, x := range []pair{made(t, nil, nil), made(t, []api.Point{at(0, 0)}, nil), house(t), crooked(t)} {
		n := len(x.w.points)
		before := told(x.m)
		for _, a := range oddNumbers(n) {
			for _, b := range append(oddNumbers(n), 0, 1, 2, 3) {
				x.says(t, a, b, true, false)
				x.turn(t, a, b, api.ErrNone)
				x.turn(t, b, a, api.ErrNone)
			}
		}
		for _, l := range oddLists(n) {
			x.settle(t, 0, l...)
		}
		if !told(x.m).same(before) {
			t.Error("the mesh is another one")
		}
	}
}

// Of two faults the first one is told: an edge that is not shared, and may not be
// turned since it is fixed, too.
func TestTwoFaults(t *testing.T) {
	x := house(t)
	for i, e := range [][2]int{{0, 1}, {4, 2}, {0, 2}, {1, 4}, {1, 3}} {
		x.m.Fix(e[0], e[1], i)
	}
	before := told(x.m)
	for _, e := range [][2]int{{0, 1}, {2, 4}, {0, 2}, {1, 4}, {0, 0}, {9, 9}, {-1, 1}} {
		x.turn(t, e[0], e[1], api.ErrNone)
		x.turn(t, e[1], e[0], api.ErrNone)
	}
	x.turn(t, 1, 3, api.ErrMesh)
	x.turn(t, 3, 1, api.ErrMesh)
	if !told(x.m).same(before) {
		t.Error("the mesh is another one")
	}
	x.m.Loose(1, 3)
	x.turn(t, 1, 3, api.OK)
}

// R1: a mesh that no call made has nothing, and breaks nothing.
func TestMadeOtherwise(t *testing.T) {
	m := new(mesh.Mesh)
	for _, a := range append(oddNumbers(0), 0, 1) {
		flip.Delaunay(m, a, 0)
		flip.May(m, 0, a)
		flip.Turn(m, a, a)
	}
	for _, l := range oddLists(0) {
		flip.Settle(m, l)
	}
	flip.All(m)
	handmade := *crooked(t).m
	if n, e := flip.All(&handmade); n != 1 || e != api.OK {
		t.Error("All of a copy made by hand:", n, e)
	}
}

// R2: copies of a mesh do not see what is turned in one another.
func TestCopies(t *testing.T) {
	x := crooked(t)
	y, z := x.copy(), x.copy()
	y.turn(t, 0, 2, api.OK)
	z.all(t, 1)
	x.has(t, api.Tri{0, 1, 2}, api.Tri{0, 2, 3})
	x.settle(t, 1, [2]int{2, 0})
	y.turn(t, 1, 3, api.OK)
	y.has(t, api.Tri{0, 1, 2}, api.Tri{0, 2, 3})
	x.has(t, api.Tri{0, 1, 3}, api.Tri{1, 2, 3})
	z.has(t, api.Tri{0, 1, 3}, api.Tri{1, 2, 3})
}

// As many points as there may be: an edge of the last ones.
func TestMaxPoints(t *testing.T) {
	l := make([]api.Point, api.MaxPoints)
	for i := range l {
		l[i] = at(float64(i%1024), float64(i/1024))
	}
	last := api.MaxPoints - 1
	l[last] = at(1022.5, 1022.5)
	x := pair{m: nil}
	var e api.Errno
	if x.m, e = mesh.Of(l, []api.Tri{{last - 1025, last - 1024, last}, {last, last - 1, last - 1025}}); e != api.OK {
		t.Fatal(e)
	}
	if !flip.Delaunay(x.m, last, last-1025) || flip.May(x.m, last, last-1025) {
		t.Error("four corners that are not convex")
	}
	x.turn(t, last, last-1025, api.ErrMesh)
	x.turn(t, last, last-1, api.ErrNone)
	x.turn(t, last, last+1, api.ErrNone)
	x.all(t, 0)
}
