package mesh_test

import (
	"math"
	"slices"
	"testing"

	"trivet/api"
	"trivet/mesh"
)

// wrongPoints may not be.
func wrongPoints() []api.Point {
	var l []api.Point
	for _, x := range []float64{
		math.NaN(), math.Inf(1), math.Inf(-1), 0x1p101, -0x1p101, math.Nextafter(0x1p100, math.Inf(1)),
		0x1p-101, -0x1p-101, 0x1.8p-100, 0x1p-1074, math.MaxFloat64, 0x1.0000000000001p-100,
	} {
		l = append(l, at(x, 0), at(3, x), at(x, x))
	}
	return l
}

// A nil mesh, for each call; nothing is told, whatever else is wrong.
func TestNilMesh(t *testing.T) {
	var m *mesh.Mesh
	for _, p := range []api.Point{at(0, 0), at(math.NaN(), 0)} {
		if n, e := m.Add(p); n != 0 || e != api.ErrNil {
			t.Error("Add:", n, e)
		}
	}
	for _, a := range []int{0, 1, -1, math.MaxInt} {
		nilAsked(t, m, a)
	}
	if m.Copy() != nil || !told(m).same(answers{}) {
		t.Errorf("told of nil: %+v", told(m))
	}
}

func nilAsked(t *testing.T, m *mesh.Mesh, a int) {
	t.Helper()
	for _, e := range []api.Errno{m.Make(a, 1, 2), m.Make(a, a, a), m.Kill(a, 1, 2), m.Kill(0, a, a), m.Fix(a, 1, 5), m.Fix(a, a, 5)} {
		if e != api.ErrNil {
			t.Error("Make, Kill or Fix of nil:", e)
		}
	}
	if p, ok := m.Point(a); p != (api.Point{}) || ok {
		t.Error("Point of nil:", p, ok)
	}
	if c, ok := m.Apex(a, 1); c != 0 || ok {
		t.Error("Apex of nil:", c, ok)
	}
	if mark, ok := m.Fixed(a, 1); mark != 0 || ok {
		t.Error("Fixed of nil:", mark, ok)
	}
	if m.Loose(a, 1) || len(m.Spokes(a)) != 0 {
		t.Error("Loose or Spokes of nil")
	}
}

// R1: a mesh that no call of the package made panics nowhere, nor does a struct
// that was copied by hand, when both are changed.
func TestMadeOtherwise(t *testing.T) {
	handmade := *made(t, square(), []api.Tri{{0, 1, 2}}).Mesh
	var empty mesh.Mesh
	for _, m := range []*mesh.Mesh{&empty, &handmade, new(mesh.Mesh)} {
		other := *m
		for _, x := range []*mesh.Mesh{m, &other, m.Copy()} {
			for _, p := range square() {
				x.Add(p)
				m.Add(p)
			}
			x.Make(4, 5, 6)
			m.Make(0, 5, 6)
			other.Make(0, 1, 6)
			x.Fix(4, 5, 6)
			x.Kill(4, 5, 6)
			m.Kill(4, 5, 6)
			m.Kill(0, 1, 2)
			for i := range 9 {
				x.Apex(i, (i+1)%9)
				other.Spokes(i)
				m.Kill(i, 5, 6)
				x.Loose(i, 5)
			}
			told(x)
			told(m)
		}
	}
}

// A point that may not be, at each place of a list, and alone.
func TestPointsThatMayNotBe(t *testing.T) {
	for _, p := range wrongPoints() {
		for i := range 5 {
			l := slices.Insert(square(), i, p)
			if m, e := mesh.New(l); m != nil || e != api.ErrRange {
				t.Errorf("New of %v: %v", l, e)
			}
			for _, tris := range [][]api.Tri{nil, {{0, 1, 9}}, {{0, 0, 0}}} {
				if m, e := mesh.Of(l, tris); m != nil || e != api.ErrRange {
					t.Errorf("Of %v, %v: %v", l, tris, e)
				}
			}
		}
		x := made(t, square(), []api.Tri{{0, 1, 2}})
		x.add(t, p, true)
		allAgree(t, x.Mesh, x.w)
		x.add(t, at(1, 1), false)
		allAgree(t, x.Mesh, x.w)
	}
}

// Numbers below 0 or of no point, at each place of each call.
func TestNumbersOfNoPoint(t *testing.T) {
	x := made(t, square(), []api.Tri{{0, 1, 2}})
	x.fix(t, 1, 2, 5)
	for _, n := range oddNumbers(4)[2:] {
		for by := range 3 {
			for _, c := range []api.Tri{{n, 0, 1}, {n, 1, 3}, {n, 3, 1}, {n, n, 3}, {n, n, n}, {n, 3, 3}, {n, -1, 4}} {
				if e := x.make(t, turned(c, by)); e != api.ErrIndex {
					t.Error("Make:", turned(c, by), e)
				}
				if e := x.kill(t, turned(c, by)); e != api.ErrNone {
					t.Error("Kill:", turned(c, by), e)
				}
			}
		}
		for _, e := range [][2]int{{n, 0}, {0, n}, {n, n}, {n, -1}, {4, n}} {
			if err := x.fix(t, e[0], e[1], 6); err != api.ErrIndex {
				t.Error("Fix:", e, err)
			}
			x.loose(t, e[0], e[1])
		}
		allAgree(t, x.Mesh, x.w)
	}
}

// Three points that do not turn left: right, on a line, one point twice or thrice.
func TestNotLeft(t *testing.T) {
	points := append(square(), at(1, 1), at(4, 0), at(2, 0))
	x := made(t, points, []api.Tri{{1, 3, 4}})
	before := told(x.Mesh)
	for _, c := range []api.Tri{
		{0, 2, 1}, {1, 2, 3}, {0, 3, 1}, {4, 1, 0}, {0, 1, 5}, {0, 5, 1}, {0, 4, 3}, {1, 4, 2}, {0, 1, 6},
		{1, 6, 2}, {0, 1, 1}, {1, 1, 0}, {0, 0, 2}, {2, 2, 2}, {3, 2, 3},
	} {
		for by := range 3 {
			if e := x.make(t, turned(c, by)); e != api.ErrMesh {
				t.Errorf("Make of %v: %v", turned(c, by), e)
			}
			if e := x.kill(t, turned(c, by)); e != api.ErrNone {
				t.Errorf("Kill of %v: %v", turned(c, by), e)
			}
			if m, e := mesh.Of(points, []api.Tri{{0, 1, 2}, turned(c, by)}); m != nil || e != api.ErrMesh {
				t.Errorf("Of %v: %v", turned(c, by), e)
			}
		}
		if !told(x.Mesh).same(before) {
			t.Fatal("something is left of", c)
		}
	}
	allAgree(t, x.Mesh, x.w)
}

// A directed edge that is there already, whichever of the three, and all of them.
func TestThereAlready(t *testing.T) {
	points := append(square(), at(1, 3), at(3, 1), at(-1, 1))
	x := made(t, points, []api.Tri{{0, 1, 2}, {1, 3, 2}})
	before := told(x.Mesh)
	for _, c := range []api.Tri{{0, 1, 2}, {0, 1, 3}, {0, 1, 4}, {1, 3, 4}, {2, 0, 3}, {2, 0, 5}, {3, 2, 0}, {1, 2, 6}, {2, 1, 5}} {
		if !turnsLeft(points[c[0]], points[c[1]], points[c[2]]) {
			t.Error(c, "turns right: it would be refused for that")
		}
		for by := range 3 {
			if e := x.make(t, turned(c, by)); e != api.ErrMesh {
				t.Errorf("Make of %v: %v", turned(c, by), e)
			}
			if m, e := mesh.Of(points, []api.Tri{{0, 1, 2}, {1, 3, 2}, turned(c, by)}); m != nil || e != api.ErrMesh {
				t.Errorf("Of %v: %v", turned(c, by), e)
			}
		}
		if !told(x.Mesh).same(before) {
			t.Fatal("something is left of", c)
		}
	}
	allAgree(t, x.Mesh, x.w)
}

// Triangles that are not there: turned about, or with two corners of one that is.
func TestNotThere(t *testing.T) {
	x := made(t, append(square(), at(3, 3)), []api.Tri{{0, 1, 2}, {1, 3, 2}})
	x.fix(t, 1, 2, 5)
	before := told(x.Mesh)
	for _, c := range []api.Tri{
		{0, 2, 1}, {1, 2, 3}, {0, 1, 3}, {0, 1, 4}, {0, 1, 0}, {0, 1, 1}, {1, 2, 1}, {1, 3, 0}, {2, 0, 3}, {4, 3, 2}, {4, 4, 4}, {0, 3, 2},
	} {
		for by := range 3 {
			if e := x.kill(t, turned(c, by)); e != api.ErrNone {
				t.Errorf("Kill of %v: %v", turned(c, by), e)
			}
		}
		if !told(x.Mesh).same(before) {
			t.Fatal("something went with", c)
		}
	}
	allAgree(t, x.Mesh, x.w)
}

// An edge from a point to itself.
func TestFixOfOnePoint(t *testing.T) {
	x := made(t, square(), []api.Tri{{0, 1, 2}})
	for i := range 4 {
		if e := x.fix(t, i, i, 3); e != api.ErrArg {
			t.Error("Fix:", i, e)
		}
		x.loose(t, i, i)
		allAgree(t, x.Mesh, x.w)
	}
}

// Of two faults the one that the chapter names first.
func TestTwoFaults(t *testing.T) {
	x := made(t, square(), []api.Tri{{0, 1, 2}})
	for _, c := range []api.Tri{{0, 0, 9}, {0, 1, 9}, {9, 2, 1}, {-1, -1, -1}, {1, 2, 4}} {
		if e := x.make(t, c); e != api.ErrIndex {
			t.Error("Make:", c, e)
		}
	}
	for _, n := range []int{-1, 4, 9} {
		if e := x.fix(t, n, n, 1); e != api.ErrIndex {
			t.Error("Fix:", n, e)
		}
	}
	for _, y := range []struct {
		tris []api.Tri
		want api.Errno
	}{
		{[]api.Tri{{0, 2, 1}, {0, 1, 9}}, api.ErrMesh},
		{[]api.Tri{{0, 1, 9}, {0, 2, 1}}, api.ErrIndex},
		{[]api.Tri{{0, 1, 2}, {0, 1, 2}, {0, 1, 9}}, api.ErrMesh},
		{[]api.Tri{{0, 1, 2}, {0, 1, -1}, {0, 1, 2}}, api.ErrIndex},
		{[]api.Tri{{0, 1, 2}, {1, 3, 2}, {3, 1, 0}}, api.ErrMesh},
	} {
		if m, e := mesh.Of(square(), y.tris); m != nil || e != y.want {
			t.Errorf("Of %v: %v, want %v", y.tris, e, y.want)
		}
	}
}

// As many points as there may be, and one more; of points that may not be and are
// too many, New and Of say the latter, and Add the former.
func TestMaxPoints(t *testing.T) {
	l := make([]api.Point, api.MaxPoints+1)
	for i := range l {
		l[i] = at(float64(i%1024), float64(i/1024))
	}
	most := l[:api.MaxPoints]
	last := api.MaxPoints - 1
	m, e := mesh.Of(most, []api.Tri{{last, 0, 5}, {0, last, last - 1}})
	if e != api.OK || m.Len() != api.MaxPoints || m.Count() != 2 {
		t.Fatal("Of MaxPoints points:", e)
	}
	fullAsked(t, m, last)
	l[3] = at(math.NaN(), 0)
	if m, e := mesh.New(l); m != nil || e != api.ErrFull {
		t.Error("New of too many points, and a wrong one:", e)
	}
	if m, e := mesh.Of(l, []api.Tri{{0, 0, -1}}); m != nil || e != api.ErrFull {
		t.Error("Of too many points, and a wrong one:", e)
	}
	l[3] = at(3, 0)
	if m, e := mesh.New(l); m != nil || e != api.ErrFull {
		t.Error("New of too many points:", e)
	}
	m, e = mesh.New(l[:last])
	if e != api.OK {
		t.Fatal("New of one point fewer:", e)
	}
	if n, e := m.Add(at(9, 9)); n != last || e != api.OK || m.Len() != api.MaxPoints {
		t.Error("Add of the last point that may be:", n, e)
	}
}

// fullAsked wants a mesh of MaxPoints points, with the two triangles above.
func fullAsked(t *testing.T, m *mesh.Mesh, last int) {
	t.Helper()
	if n, e := m.Add(at(0, 0)); n != 0 || e != api.ErrFull {
		t.Error("Add of one more:", n, e)
	}
	if n, e := m.Add(at(math.Inf(1), 0)); n != 0 || e != api.ErrRange {
		t.Error("Add of one more, which may not be:", n, e)
	}
	if m.Len() != api.MaxPoints || len(m.Points()) != api.MaxPoints {
		t.Error("there are", m.Len())
	}
	if l := m.Spokes(last); !slices.Equal(l, []int{0, 5, last - 1}) {
		t.Error("Spokes of the last point:", l)
	}
	if e := m.Make(0, 5, last+1); e != api.ErrIndex {
		t.Error("Make behind the last point:", e)
	}
	if e := m.Fix(last, last+1, 1); e != api.ErrIndex {
		t.Error("Fix behind the last point:", e)
	}
	if l := m.Tris(); !slices.Equal(l, []api.Tri{{0, 5, last}, {0, last, last - 1}}) {
		t.Error("Tris:", l)
	}
}
