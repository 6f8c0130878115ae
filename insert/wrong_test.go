package insert_test

import (
	"math"
	"testing"

	"trivet/api"
	"trivet/insert"
	"trivet/mesh"
)

// wrongPoints may not be.
func wrongPoints() []api.Point {
	var l []api.Point
	for _, x := range []float64{math.NaN(), math.Inf(1), math.Inf(-1), math.Nextafter(0x1p100, math.Inf(1)), -0x1p101, math.MaxFloat64, 0x1p-101, 0x1.8p-100, math.SmallestNonzeroFloat64} {
		l = append(l, at(x, 1), at(1, x), at(x, x))
	}
	return append(l, at(math.NaN(), math.Inf(1)))
}

// rightPoints are on a corner of the chapter's mesh, on an edge, within and outside.
func rightPoints() []api.Point {
	return []api.Point{at(0, 0), at(4, 0), at(2, 2), at(2, 0), at(1, 1), at(9, 9), at(-1, 0), at(0x1p100, -0x1p100), at(0x1p-100, 0)}
}

// A nil mesh is told ahead of whatever else is wrong.
func TestNilMesh(t *testing.T) {
	for _, p := range append(wrongPoints(), rightPoints()...) {
		for _, seed := range seeds {
			if n, e := insert.Point(nil, p, seed); n != 0 || e != api.ErrNil {
				t.Errorf("Point of %v: %d, %v", p, n, e)
			}
		}
	}
}

// Points that may not be, in meshes of all kinds, ahead of that there are no triangles.
func TestPointsThatMayNotBe(t *testing.T) {
	bare := made(t, []api.Point{at(0, 0), at(1, 0)}, nil)
	for _, x := range []pair{made(t, nil, nil), bare, corner(t, [2]int{1, 2}), ridge(t), wings(t), frame(t)} {
		for _, p := range wrongPoints() {
			x.refused(t, p, api.ErrRange)
		}
	}
}

// R4: with an error nothing is changed, though an edge is out of order that would be
// turned, and though the next point has the number that this one would have had.
func TestNothingChanged(t *testing.T) {
	points := []api.Point{at(0, 0), at(9, 0), at(9, 9), at(1, 2), at(10, 10), at(20, 9), at(20, 11), at(11, 20), at(9, 20)}
	tris := []api.Tri{{0, 1, 2}, {0, 2, 3}, {4, 5, 6}, {4, 7, 8}}
	x := made(t, points, tris, [2]int{0, 1}, [2]int{2, 8}, [2]int{4, 5})
	before := told(x.m)
	x.refused(t, at(9, 9), api.ErrTwice)
	x.refused(t, at(10, 10), api.ErrTwice)
	x.refused(t, at(21, -7), api.ErrMesh)
	x.refused(t, at(-7, 21), api.ErrMesh)
	for _, p := range wrongPoints() {
		x.refused(t, p, api.ErrRange)
	}
	if !told(x.m).same(before) || x.m.Len() != 9 || x.m.Count() != 4 {
		t.Error("the mesh is another one:", told(x.m))
	}
	x.taken(t, at(5, 1), 9, 0)
}

// full is a mesh of as many points as there may be, less some: two triangles with a
// corner in common, one of them beside a third one; all other points are loose.
func full(t *testing.T, less int) pair {
	t.Helper()
	l := make([]api.Point, api.MaxPoints-less)
	for i := range l {
		l[i] = at(float64(100+i%1024), float64(100+i/1024))
	}
	copy(l, []api.Point{at(0, 0), at(4, -1), at(4, 1), at(3, 3), at(2, 3), at(2, 5)})
	m, e := mesh.Of(l, []api.Tri{{0, 1, 2}, {0, 3, 4}, {3, 5, 4}})
	if e != api.OK {
		t.Fatal(e)
	}
	return pair{m: m}
}

// As many points as there may be: one more is told ErrFull, where it is not told
// something that comes first.
func TestMaxPoints(t *testing.T) {
	x := full(t, 0)
	x.m.Fix(0, 1, 3)
	border := x.m.Border()
	for _, y := range []struct {
		p    api.Point
		want api.Errno
	}{
		{at(math.NaN(), 0), api.ErrRange}, {at(0, 0), api.ErrTwice}, {at(2, 3), api.ErrTwice},
		{at(1, -5), api.ErrMesh}, {at(-5, 4), api.ErrMesh},
		{at(3, 0), api.ErrFull}, {at(2.5, 3), api.ErrFull}, {at(4, 0), api.ErrFull}, {at(2, -0.5), api.ErrFull}, {at(4, 3), api.ErrFull},
	} {
		if n, e := insert.Point(x.m, y.p, 1); n != 0 || e != y.want {
			t.Errorf("Point of %v: %d, %v; want %v", y.p, n, e, y.want)
		}
		if mark, fixed := x.m.Fixed(0, 1); x.m.Len() != api.MaxPoints || x.m.Count() != 3 || len(x.m.Border()) != len(border) || mark != 3 || !fixed {
			t.Errorf("Point of %v has changed the mesh", y.p)
		}
	}
	for _, c := range x.m.Tris() {
		x.m.Kill(c[0], c[1], c[2])
	}
	if n, e := insert.Point(x.m, at(3, 0), 1); n != 0 || e != api.ErrNone {
		t.Error("Point without triangles:", n, e)
	}
}

// The last point that there may be is taken in.
func TestLastPoint(t *testing.T) {
	x := full(t, 1)
	x.taken(t, at(3, 0), api.MaxPoints-1, 7)
	if x.m.Len() != api.MaxPoints || x.m.Count() != 5 {
		t.Error("points and triangles:", x.m.Len(), x.m.Count())
	}
	if n, e := insert.Point(x.m, at(2, 0), 7); n != 0 || e != api.ErrFull {
		t.Error("Point:", n, e)
	}
}

// R1: a mesh that no call made has nothing, and breaks nothing.
func TestMadeOtherwise(t *testing.T) {
	m := new(mesh.Mesh)
	for _, p := range append(wrongPoints(), rightPoints()...) {
		for _, seed := range seeds {
			insert.Point(m, p, seed)
		}
	}
	handmade := *corner(t).m
	if n, e := insert.Point(&handmade, at(1, 1), 0); n != 3 || e != api.OK {
		t.Error("Point of a copy made by hand:", n, e)
	}
}

// R2: copies of a mesh do not see what is taken into one another.
func TestCopies(t *testing.T) {
	x := corner(t)
	y, z := x.copy(), x.copy()
	y.taken(t, at(1, 1), 3, 0)
	z.taken(t, at(4, 4), 3, 0)
	x.has(t, api.Tri{0, 1, 2})
	x.taken(t, at(2, 2), 3, 0)
	y.has(t, api.Tri{0, 1, 3}, api.Tri{0, 3, 2}, api.Tri{1, 2, 3})
	z.has(t, api.Tri{0, 1, 2}, api.Tri{1, 3, 2})
	x.has(t, api.Tri{0, 1, 3}, api.Tri{0, 3, 2})
	if p, _ := y.m.Point(3); p != at(1, 1) {
		t.Error("a point of a copy:", p)
	}
}
