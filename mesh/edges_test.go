package mesh_test

import (
	"math"
	"slices"
	"testing"

	"trivet/api"
	"trivet/mesh"
)

// A mesh without points, however it was asked for; the first point has the number 0.
func TestNoPoints(t *testing.T) {
	for _, points := range [][]api.Point{nil, {}} {
		for _, tris := range [][]api.Tri{nil, {}} {
			x := made(t, points, tris)
			allAgree(t, x.Mesh, x.w)
			allAgree(t, x.Copy(), x.w)
			x.make(t, api.Tri{0, 0, 0})
			x.make(t, api.Tri{0, 1, 2})
			x.kill(t, api.Tri{0, 0, 0})
			x.kill(t, api.Tri{0, 1, 2})
			x.fix(t, 0, 0, 1)
			x.fix(t, 0, 1, 1)
			x.loose(t, 0, 1)
			x.loose(t, 0, 0)
			allAgree(t, x.Mesh, x.w)
			for _, p := range square() {
				x.add(t, p, false)
				allAgree(t, x.Mesh, x.w)
			}
			if e := x.make(t, api.Tri{3, 2, 0}); e != api.OK {
				t.Error("Make of points that were added:", e)
			}
			allAgree(t, x.Mesh, x.w)
		}
	}
}

func TestNoTriangles(t *testing.T) {
	x := bare(t, square())
	allAgree(t, x.Mesh, x.w)
	x.kill(t, api.Tri{0, 1, 2})
	x.fix(t, 0, 3, 4)
	allAgree(t, x.Mesh, x.w)
	x = made(t, square(), nil)
	allAgree(t, x.Mesh, x.w)
}

// Points that are alike are points of their own; -0 is 0.
func TestAlikePoints(t *testing.T) {
	minus := math.Copysign(0, -1)
	x := bare(t, []api.Point{at(0, 0), at(2, 0), at(0, 2), at(minus, 0), at(2, minus), at(minus, 2)})
	for _, p := range []api.Point{at(2, 0), at(minus, minus), at(2, 0)} {
		x.add(t, p, false)
		allAgree(t, x.Mesh, x.w)
	}
	for _, p := range append(x.Points(), pointOf(t, x.Mesh, 3), pointOf(t, x.Mesh, 7)) {
		if math.Signbit(p.X) || math.Signbit(p.Y) {
			t.Error("a -0 is told:", p)
		}
	}
	for _, c := range []api.Tri{{0, 3, 2}, {0, 1, 4}, {1, 4, 6}, {0, 3, 7}} {
		if e := x.make(t, c); e != api.ErrMesh {
			t.Errorf("%v has alike corners: %v", c, e)
		}
	}
	for _, c := range []api.Tri{{0, 1, 2}, {3, 4, 5}, {0, 4, 2}, {7, 8, 2}, {3, 1, 5}, {0, 6, 5}} {
		x.make(t, c)
		allAgree(t, x.Mesh, x.w)
	}
	x.fix(t, 0, 3, 5)
	x.fix(t, 1, 6, 6)
	allAgree(t, x.Mesh, x.w)
}

func pointOf(t *testing.T, m *mesh.Mesh, i int) api.Point {
	t.Helper()
	p, ok := m.Point(i)
	if !ok {
		t.Error("there is no point", i)
	}
	return p
}

// Triangles that lie upon one another, or within, but share no directed edge, may be.
func TestUponOneAnother(t *testing.T) {
	points := []api.Point{at(0, 0), at(8, 0), at(0, 8), at(1, 1), at(3, 1), at(1, 3), at(0, 0), at(8, 0), at(0, 8)}
	for _, tris := range [][]api.Tri{
		{{0, 1, 2}, {3, 4, 5}},
		{{0, 1, 2}, {6, 7, 8}},
		{{0, 1, 2}, {6, 7, 2}, {0, 7, 8}, {6, 1, 8}},
		{{0, 1, 2}, {0, 4, 5}, {1, 5, 3}, {2, 3, 4}},
	} {
		x := made(t, points, tris)
		allAgree(t, x.Mesh, x.w)
		if x.Count() != len(tris) {
			t.Error(tris, "are there as", x.Tris())
		}
	}
}

// An edge that is there in one direction alone, and then in both, and then in the
// other one alone.
func TestOneDirectionAndBoth(t *testing.T) {
	x := made(t, square(), []api.Tri{{0, 1, 2}})
	allAgree(t, x.Mesh, x.w)
	if !slices.Contains(x.Border(), [2]int{1, 2}) || slices.Contains(x.Border(), [2]int{2, 1}) {
		t.Error("1 2 is a border edge:", x.Border())
	}
	x.make(t, api.Tri{3, 2, 1})
	allAgree(t, x.Mesh, x.w)
	if slices.Contains(x.Border(), [2]int{1, 2}) || slices.Contains(x.Border(), [2]int{2, 1}) {
		t.Error("1 2 is no border edge:", x.Border())
	}
	x.kill(t, api.Tri{0, 1, 2})
	allAgree(t, x.Mesh, x.w)
	if slices.Contains(x.Border(), [2]int{1, 2}) || !slices.Contains(x.Border(), [2]int{2, 1}) {
		t.Error("2 1 is a border edge:", x.Border())
	}
	if !slices.Equal(x.Spokes(1), []int{2, 3}) || len(x.Spokes(0)) != 0 {
		t.Error("spokes of 1 and of 0:", x.Spokes(1), x.Spokes(0))
	}
}

// A border of several rows: triangles apart, triangles that have one corner alone
// in common, and a ring around a hole.
func TestBorders(t *testing.T) {
	apart := []api.Point{at(0, 0), at(1, 0), at(0, 1), at(5, 5), at(6, 5), at(5, 6)}
	bow := []api.Point{at(0, 0), at(2, 1), at(1, 2), at(-2, -1), at(-1, -2), at(3, -1), at(2, -2)}
	ring := []api.Point{at(0, 0), at(9, 0), at(9, 9), at(0, 9), at(3, 3), at(6, 3), at(6, 6), at(3, 6)}
	for _, x := range []struct {
		points []api.Point
		tris   []api.Tri
		border [][2]int
	}{
		{apart, []api.Tri{{5, 3, 4}, {1, 2, 0}}, [][2]int{{0, 1}, {1, 2}, {2, 0}, {3, 4}, {4, 5}, {5, 3}}},
		{bow, []api.Tri{{0, 1, 2}, {3, 4, 0}, {5, 0, 6}}, [][2]int{{0, 1}, {0, 3}, {0, 6}, {1, 2}, {2, 0}, {3, 4}, {4, 0}, {5, 0}, {6, 5}}},
		{ring, []api.Tri{{0, 1, 4}, {1, 5, 4}, {1, 2, 5}, {2, 6, 5}, {2, 3, 6}, {3, 7, 6}, {3, 0, 7}, {0, 4, 7}},
			[][2]int{{0, 1}, {1, 2}, {2, 3}, {3, 0}, {4, 7}, {5, 4}, {6, 5}, {7, 6}}},
	} {
		p := made(t, x.points, x.tris)
		allAgree(t, p.Mesh, p.w)
		if l := p.Border(); !slices.Equal(l, x.border) {
			t.Errorf("the border of %v: %v, want %v", x.tris, l, x.border)
		}
	}
}

// Make and Kill from any corner on; in the mesh's own order each triangle begins
// with its least corner.
func TestFromAnyCorner(t *testing.T) {
	for by := range 3 {
		for back := range 3 {
			x := bare(t, square())
			x.make(t, turned(api.Tri{1, 3, 2}, by))
			x.make(t, turned(api.Tri{0, 1, 2}, back))
			allAgree(t, x.Mesh, x.w)
			if l := x.Tris(); !slices.Equal(l, []api.Tri{{0, 1, 2}, {1, 3, 2}}) {
				t.Error("Tris:", l)
			}
			if e := x.make(t, turned(api.Tri{1, 3, 2}, back)); e != api.ErrMesh {
				t.Error("Make of what is there:", e)
			}
			if e := x.kill(t, turned(api.Tri{1, 3, 2}, back)); e != api.OK {
				t.Error("Kill:", e)
			}
			allAgree(t, x.Mesh, x.w)
			if e := x.kill(t, turned(api.Tri{1, 3, 2}, by)); e != api.ErrNone {
				t.Error("Kill of what went:", e)
			}
			allAgree(t, x.Mesh, x.w)
		}
	}
}

// Fix of edges that are not there, and of some that are fixed already, with the
// ends in either order; markers of all kinds; what is fixed stays when triangles go.
func TestFixes(t *testing.T) {
	x := made(t, square(), []api.Tri{{0, 1, 2}, {1, 3, 2}})
	for _, s := range []api.Seg{
		{A: 1, B: 2, Mark: 3}, {A: 2, B: 1, Mark: 4}, {A: 0, B: 3, Mark: math.MaxInt}, {A: 3, B: 0, Mark: math.MinInt},
		{A: 3, B: 2, Mark: 0}, {A: 2, B: 3, Mark: 0}, {A: 2, B: 0, Mark: -1}, {A: 1, B: 2, Mark: 0}, {A: 3, B: 1, Mark: 1 << 40},
	} {
		if e := x.fix(t, s.A, s.B, s.Mark); e != api.OK {
			t.Error("Fix:", s, e)
		}
		allAgree(t, x.Mesh, x.w)
	}
	for _, e := range [][2]int{{0, 1}, {1, 0}, {2, 1}, {1, 2}, {2, 1}, {0, 3}, {0, 0}, {3, 2}} {
		x.loose(t, e[0], e[1])
		allAgree(t, x.Mesh, x.w)
	}
	x.kill(t, api.Tri{0, 1, 2})
	x.kill(t, api.Tri{1, 3, 2})
	allAgree(t, x.Mesh, x.w)
	if l := x.Fixes(); !slices.Equal(l, []api.Seg{{A: 0, B: 2, Mark: -1}, {A: 1, B: 3, Mark: 1 << 40}}) {
		t.Error("Fixes without triangles:", l)
	}
	x.add(t, at(9, 9), false)
	if e := x.fix(t, 4, 0, 6); e != api.OK {
		t.Error("Fix of a point that was added:", e)
	}
	allAgree(t, x.Mesh, x.w)
}

// Copy, and what is done to one of both behind it.
func TestCopies(t *testing.T) {
	changes := []func(x pair){
		func(x pair) { x.add(t, at(7, 7), false) },
		func(x pair) { x.make(t, api.Tri{0, 4, 1}) },
		func(x pair) { x.kill(t, api.Tri{0, 1, 2}) },
		func(x pair) { x.kill(t, api.Tri{3, 2, 1}) },
		func(x pair) { x.fix(t, 0, 3, 1) },
		func(x pair) { x.fix(t, 2, 1, 6) },
		func(x pair) { x.loose(t, 1, 2) },
	}
	for i := range changes {
		for j := range changes {
			a := made(t, append(square(), at(3, -9)), []api.Tri{{0, 1, 2}, {1, 3, 2}})
			a.fix(t, 1, 2, 5)
			b := pair{a.Copy(), a.w.copy()}
			allAgree(t, b.Mesh, b.w)
			changes[i](a)
			allAgree(t, b.Mesh, b.w)
			changes[j](b)
			allAgree(t, a.Mesh, a.w)
			allAgree(t, b.Mesh, b.w)
			c := pair{b.Copy(), b.w.copy()}
			changes[i](c)
			allAgree(t, a.Mesh, a.w)
			allAgree(t, b.Mesh, b.w)
			allAgree(t, c.Mesh, c.w)
		}
	}
}

// Where a triangle turns left by the least step alone, it may be; turned about not.
func TestExactly(t *testing.T) {
	const most, step = 0x1p100, 0x1p-100
	for _, l := range [][]api.Point{
		{at(0, 0), at(most, 0), at(0, step)},
		{at(-most, -most), at(most, most), at(-step, step)},
		{at(0.5, 0.5), at(12, 12), at(24, math.Nextafter(24, 25))},
		{at(-most, -most), at(most, -most), at(-most, most)},
		{at(0, 0), at(step, 0), at(0, step)},
	} {
		x := bare(t, l)
		if e := x.make(t, api.Tri{0, 2, 1}); e != api.ErrMesh {
			t.Errorf("%x turns right: %v", l, e)
		}
		if e := x.make(t, api.Tri{0, 1, 2}); e != api.OK {
			t.Errorf("%x turns left: %v", l, e)
		}
		allAgree(t, x.Mesh, x.w)
	}
	x := bare(t, []api.Point{at(0, 0), at(0x1p-100, 0x1p-100), at(0x1p99, 0x1p99), at(0.1, 0.1)})
	for _, c := range []api.Tri{{0, 1, 2}, {2, 1, 0}, {1, 3, 2}, {3, 1, 2}} {
		if e := x.make(t, c); e != api.ErrMesh {
			t.Errorf("%v lies on a line: %v", c, e)
		}
	}
}
