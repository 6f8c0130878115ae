package mesh_test

import (
	"math/rand/v2"
	"slices"
	"testing"

	"trivet/api"
)

// drawnMesh has as many triangles as come of many tries.
func drawnMesh(t *testing.T, r *rand.Rand) pair {
	t.Helper()
	if r.IntN(10) == 0 {
		points, tris := gridOf(2 + r.IntN(12))
		return made(t, points, shuffled(r, tris)[:r.IntN(len(tris)+1)])
	}
	x := bare(t, drawnPoints(r, r.IntN(12)))
	for range r.IntN(100) {
		x.make(t, drawnTri(r, len(x.w.points)))
	}
	return x
}

// sameTold holds all that P15.2 tells of two meshes against each other.
func sameTold(t *testing.T, x, y pair) {
	t.Helper()
	a, b := told(x.Mesh), told(y.Mesh)
	if !a.same(b) {
		t.Fatalf("%+v\nand %+v", a, b)
	}
	for i := range a.length {
		for j := range a.length {
			c, there := x.Apex(i, j)
			if d, thereToo := y.Apex(i, j); c != d || there != thereToo {
				t.Fatal("Apex:", i, j, c, there, d, thereToo)
			}
		}
	}
}

// P15.4: made anew of its points and triangles, in any order, from any corner on.
func TestFromItsTriangles(t *testing.T) {
	r := rand.New(rand.NewPCG(15, 4))
	for range 400 {
		x := drawnMesh(t, r)
		for range r.IntN(5) {
			x.kill(t, oneThere(r, x.w))
		}
		sameTold(t, x, made(t, x.Points(), x.Tris()))
		sameTold(t, x, made(t, x.Points(), shuffled(r, x.Tris())))
		y := bare(t, x.Points())
		for _, c := range shuffled(r, x.Tris()) {
			if e := y.make(t, c); e != api.OK {
				t.Fatal("Make:", c, e)
			}
		}
		sameTold(t, x, y)
	}
}

// P15.5: counted.
func TestCounted(t *testing.T) {
	r := rand.New(rand.NewPCG(15, 5))
	for range 400 {
		x := drawnMesh(t, r)
		border := x.Border()
		if x.Count() != len(x.Tris()) || 3*x.Count() != 2*len(x.Edges())-len(border) {
			t.Fatal("triangles, edges, border edges:", x.Count(), len(x.Tris()), len(x.Edges()), len(border))
		}
		leave := make([]int, x.Len())
		for _, e := range border {
			leave[e[0]]++
			leave[e[1]]--
		}
		if slices.ContainsFunc(leave, func(n int) bool { return n != 0 }) {
			t.Fatal("border edges leave more often than they come, or less:", leave, border)
		}
		spokes := 0
		for i := range x.Len() {
			spokes += len(x.Spokes(i))
		}
		if spokes != 2*len(x.Edges()) {
			t.Fatal("spokes, edges:", spokes, len(x.Edges()))
		}
	}
}

// P15.6: a triangle that is made, and goes, leaves all as it was; so does one that
// goes and is made again, and many of them, which go in another order.
func TestUndone(t *testing.T) {
	r := rand.New(rand.NewPCG(15, 6))
	came := 0
	for range 400 {
		x := drawnMesh(t, r)
		x.fix(t, 0, 1, 7)
		was := pair{x.Copy(), x.w.copy()}
		var new []api.Tri
		for range 12 {
			c := drawnTri(r, x.Len())
			if x.make(t, c) != api.OK {
				continue
			}
			came++
			if r.IntN(2) == 0 {
				new = append(new, c)
				continue
			}
			x.kill(t, turned(c, r.IntN(3)))
			if len(new) == 0 {
				sameTold(t, x, was)
			}
		}
		for _, c := range shuffled(r, new) {
			x.kill(t, c)
		}
		sameTold(t, x, was)
		c := oneThere(r, x.w)
		if x.kill(t, c) == api.OK {
			x.make(t, turned(c, r.IntN(3)))
		}
		sameTold(t, x, was)
	}
	if came < 300 {
		t.Error("too few triangles came:", came)
	}
}
