package walk_test

import (
	"math"
	"slices"
	"testing"

	"trivet/api"
	"trivet/mesh"
	"trivet/walk"
)

// wrongPoints may not be.
func wrongPoints() []api.Point {
	var l []api.Point
	for _, x := range []float64{
		math.NaN(), math.Inf(1), math.Inf(-1), 0x1p101, -0x1p101, math.Nextafter(0x1p100, math.Inf(1)), math.MaxFloat64,
		0x1p-101, -0x1p-101, 0x1.8p-100, 0x1p-1074, 0x1.0000000000001p-100,
	} {
		l = append(l, at(x, 0), at(0.5, x), at(x, x))
	}
	return l
}

// findWrong wants an error, and no place beside it.
func findWrong(t *testing.T, m *mesh.Mesh, p api.Point, want api.Errno) {
	t.Helper()
	for _, seed := range seeds {
		if got, e := walk.Find(m, p, seed); got != (walk.Place{}) || e != want {
			t.Errorf("Find of %x, seed %d: %v, %v; want %v", p, seed, got, e, want)
		}
	}
}

// wayWrong wants an error, and no list beside it.
func wayWrong(t *testing.T, m *mesh.Mesh, a, b int, want api.Errno) {
	t.Helper()
	if l, e := walk.Across(m, a, b); len(l) != 0 || e != want {
		t.Errorf("Across of %d, %d: %v, %v; want %v", a, b, l, e, want)
	}
	if l, e := walk.Through(m, a, b); len(l) != 0 || e != want {
		t.Errorf("Through of %d, %d: %v, %v; want %v", a, b, l, e, want)
	}
}

// oddNumbers are of no point of a mesh that has n.
func oddNumbers(n int) []int {
	return []int{n, n + 1, -1, -2, math.MinInt, math.MaxInt, 1 << 32, 1<<32 + 1, -1 << 32, 1 << 20}
}

// A nil mesh is told ahead of whatever else is wrong.
func TestNilMesh(t *testing.T) {
	for _, p := range append(wrongPoints(), at(0, 0), at(0.5, 0.5)) {
		findWrong(t, nil, p, api.ErrNil)
	}
	for _, a := range append(oddNumbers(4), 0, 1) {
		wayWrong(t, nil, a, 0, api.ErrNil)
		wayWrong(t, nil, 0, a, api.ErrNil)
		wayWrong(t, nil, a, a, api.ErrNil)
	}
}

// Points that may not be, in meshes with triangles and without.
func TestPointsThatMayNotBe(t *testing.T) {
	none := made(t, nil, nil)
	bare := made(t, []api.Point{at(0, 0)}, nil)
	x := square(t)
	before := told(x.m)
	for _, p := range wrongPoints() {
		findWrong(t, none.m, p, api.ErrRange)
		findWrong(t, bare.m, p, api.ErrRange)
		findWrong(t, x.m, p, api.ErrRange)
	}
	findWrong(t, frame(t).m, at(0x1p-101, 4), api.ErrRange)
	if !told(x.m).same(before) {
		t.Error("the mesh is another one")
	}
	x.same(t, at(0x1p-100, 0), walk.Place{Kind: api.OnEdge, A: 0, B: 1})
	x.same(t, at(0x1p100, 0), outside)
}

// Numbers of no point, in either place, and in both.
func TestNumbersOfNoPoint(t *testing.T) {
	for _, x := range []pair{made(t, nil, nil), made(t, []api.Point{at(0, 0)}, nil), square(t), frame(t)} {
		n := len(x.w.points)
		before := told(x.m)
		for _, a := range oddNumbers(n) {
			wayWrong(t, x.m, a, a, api.ErrIndex)
			wayWrong(t, x.m, a, -1, api.ErrIndex)
			wayWrong(t, x.m, n, a, api.ErrIndex)
			for b := range n {
				wayWrong(t, x.m, a, b, api.ErrIndex)
				wayWrong(t, x.m, b, a, api.ErrIndex)
			}
		}
		if !told(x.m).same(before) {
			t.Error("the mesh is another one")
		}
	}
	x := square(t)
	wayWrong(t, x.m, 0, 4, api.ErrIndex)
	x.m.Add(at(1, 1))
	x.inTheWay(t, 0, 4, nil, nil)
	x.inTheWay(t, 4, 3, nil, nil)
}

// R1: a mesh that no call made has nothing, and breaks nothing.
func TestMadeOtherwise(t *testing.T) {
	m := new(mesh.Mesh)
	for _, p := range append(wrongPoints(), at(0, 0)) {
		walk.Find(m, p, 0)
		walk.Find(m, p, math.MaxUint64)
	}
	for _, a := range append(oddNumbers(0), 0, 1) {
		walk.Across(m, a, 0)
		walk.Across(m, a, a)
		walk.Through(m, 0, a)
		walk.Through(m, a, a)
	}
	handmade := *square(t).m
	if got, e := walk.Find(&handmade, at(0.5, 0.5), 1); got.Kind != api.Inside || e != api.OK {
		t.Error("Find in a copy made by hand:", got, e)
	}
}

// As many points as there may be: the last one is a corner, and in the way.
func TestMaxPoints(t *testing.T) {
	l := make([]api.Point, api.MaxPoints)
	for i := range l {
		l[i] = at(float64(i%1024), float64(i/1024))
	}
	last := api.MaxPoints - 1
	m, e := mesh.Of(l, []api.Tri{{last, last - 1, last - 1024}})
	if e != api.OK {
		t.Fatal(e)
	}
	x := pair{m, nil}
	for _, seed := range []uint64{0, math.MaxUint64} {
		if got, e := walk.Find(m, at(1023, 1023), seed); got != (walk.Place{Kind: api.OnPoint, A: last}) || e != api.OK {
			t.Error("Find of the last point:", got, e)
		}
	}
	x.inTheWay(t, 0, last, [][2]int{{last - 1024, last - 1}}, nil)
	x.inTheWay(t, last, 0, [][2]int{{last - 1024, last - 1}}, nil)
	x.inTheWay(t, last-3, last, nil, []int{last - 1})
	x.inTheWay(t, last-2, last-1, nil, nil)
	x.inTheWay(t, 1023, last, nil, []int{last - 1024})
	wayWrong(t, m, 0, last+1, api.ErrIndex)
	if l := m.Tris(); !slices.Equal(l, []api.Tri{{last - 1024, last, last - 1}}) {
		t.Error("Tris:", l)
	}
}
