package mesh_test

import (
	"slices"
	"testing"

	"trivet/api"
	"trivet/mesh"
)

// square are the points of the chapter's examples.
func square() []api.Point { return []api.Point{at(0, 0), at(2, 0), at(0, 2), at(2, 2)} }

func TestFirstExample(t *testing.T) {
	m, e := mesh.New(square())
	if e != api.OK || m.Make(0, 1, 2) != api.OK || m.Make(1, 3, 2) != api.OK {
		t.Fatal("New, Make:", e)
	}
	want := answers{
		length: 4,
		count:  2,
		points: square(),
		tris:   []api.Tri{{0, 1, 2}, {1, 3, 2}},
		edges:  [][2]int{{0, 1}, {0, 2}, {1, 2}, {1, 3}, {2, 3}},
		border: [][2]int{{0, 1}, {1, 3}, {2, 0}, {3, 2}},
		spokes: [][]int{{1, 2}, {0, 2, 3}, {0, 1, 3}, {1, 2}},
	}
	if got := told(m); !got.same(want) {
		t.Errorf("%+v, want %+v", got, want)
	}
	if c, there := m.Apex(1, 2); c != 0 || !there {
		t.Error("Apex of 1, 2:", c, there)
	}
	if c, there := m.Apex(2, 1); c != 3 || !there {
		t.Error("Apex of 2, 1:", c, there)
	}
	if c, there := m.Apex(1, 0); c != 0 || there {
		t.Error("Apex of 1, 0:", c, there)
	}
}

func TestSecondExample(t *testing.T) {
	m, e := mesh.Of(square(), []api.Tri{{0, 1, 2}, {1, 3, 2}})
	if e != api.OK {
		t.Fatal("Of:", e)
	}
	for _, x := range []struct {
		what      string
		got, want api.Errno
	}{
		{"Make 0 2 1", m.Make(0, 2, 1), api.ErrMesh},
		{"Make 2 0 1", m.Make(2, 0, 1), api.ErrMesh},
		{"Make 0 1 9", m.Make(0, 1, 9), api.ErrIndex},
		{"Kill 1 2 0", m.Kill(1, 2, 0), api.OK},
		{"Kill 1 2 0 once more", m.Kill(1, 2, 0), api.ErrNone},
		{"Fix 0 0", m.Fix(0, 0, 1), api.ErrArg},
	} {
		if x.got != x.want {
			t.Errorf("%s: %v, want %v", x.what, x.got, x.want)
		}
	}
	if l := m.Tris(); !slices.Equal(l, []api.Tri{{1, 3, 2}}) || m.Count() != 1 {
		t.Error("behind Kill there are:", l, m.Count())
	}
}

// P15.3 on the square.
func TestFixing(t *testing.T) {
	m, _ := mesh.Of(square(), []api.Tri{{0, 1, 2}})
	if e := m.Fix(2, 1, 7); e != api.OK {
		t.Error("Fix of an edge that is there:", e)
	}
	if e := m.Fix(0, 3, -5); e != api.OK {
		t.Error("Fix of one that is not there:", e)
	}
	if e := m.Fix(3, 0, 0); e != api.OK {
		t.Error("Fix of one that is fixed:", e)
	}
	if l := m.Fixes(); !slices.Equal(l, []api.Seg{{A: 0, B: 3}, {A: 1, B: 2, Mark: 7}}) {
		t.Error("Fixes:", l)
	}
	for _, x := range []struct {
		a, b, mark int
		fixed      bool
	}{{1, 2, 7, true}, {2, 1, 7, true}, {0, 3, 0, true}, {3, 0, 0, true}, {0, 1, 0, false}, {0, 0, 0, false}} {
		if mark, fixed := m.Fixed(x.a, x.b); mark != x.mark || fixed != x.fixed {
			t.Error("Fixed:", x, mark, fixed)
		}
	}
	if !m.Loose(1, 2) || m.Loose(1, 2) || m.Loose(2, 1) || m.Loose(0, 1) {
		t.Error("Loose tells whether the edge was fixed")
	}
	if l := m.Fixes(); !slices.Equal(l, []api.Seg{{A: 0, B: 3}}) {
		t.Error("Fixes behind Loose:", l)
	}
}
