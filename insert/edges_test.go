package insert_test

import (
	"math"
	"math/rand/v2"
	"slices"
	"testing"

	"trivet/api"
	"trivet/flip"
	"trivet/insert"
	"trivet/walk"
)

// A mesh without points, and one of points alone, some edges of which are fixed: no
// place is good enough there, be it on a point or on a fixed edge.
func TestNoTriangles(t *testing.T) {
	none := made(t, nil, nil)
	none.refused(t, at(0, 0), api.ErrNone)
	bare := made(t, []api.Point{at(0, 0), at(9, 0), at(9, 9), at(1, 2)}, nil, [2]int{0, 2}, [2]int{1, 3})
	for _, p := range []api.Point{at(0, 0), at(9, 9), at(3, 3), at(5, 1), at(100, 0), at(math.Copysign(0, -1), 0)} {
		bare.refused(t, p, api.ErrNone)
	}
	gone := corner(t)
	gone.m.Kill(0, 1, 2)
	for _, p := range []api.Point{at(0, 0), at(1, 1), at(2, 2), at(9, 9)} {
		gone.refused(t, p, api.ErrNone)
	}
}

// ridge is a square of two triangles, with a loose point behind its corners.
func ridge(t *testing.T, fixes ...[2]int) pair {
	t.Helper()
	return made(t, []api.Point{at(0, 0), at(6, 0), at(6, 6), at(0, 6), at(3, 1)}, []api.Tri{{0, 1, 2}, {0, 2, 3}}, fixes...)
}

// On an edge that two triangles share, and on those that one has, in either direction.
func TestOnEdges(t *testing.T) {
	ridge(t).comes(t, at(3, 3), api.Tri{0, 1, 5}, api.Tri{0, 5, 3}, api.Tri{1, 2, 5}, api.Tri{2, 3, 5})
	ridge(t).comes(t, at(5, 5), api.Tri{0, 1, 5}, api.Tri{0, 5, 3}, api.Tri{1, 2, 5}, api.Tri{2, 3, 5})
	ridge(t, [2]int{0, 2}).comes(t, at(5, 0), api.Tri{0, 2, 3}, api.Tri{0, 5, 2}, api.Tri{1, 2, 5})
	ridge(t, [2]int{0, 2}).comes(t, at(6, 5), api.Tri{0, 1, 5}, api.Tri{0, 2, 3}, api.Tri{0, 5, 2})
	ridge(t, [2]int{0, 2}).comes(t, at(5, 6), api.Tri{0, 1, 2}, api.Tri{0, 2, 5}, api.Tri{0, 5, 3})
	ridge(t, [2]int{0, 2}).comes(t, at(0, 1), api.Tri{0, 1, 2}, api.Tri{0, 2, 5}, api.Tri{2, 3, 5})
	x := corner(t).comes(t, at(0, 1), api.Tri{0, 1, 3}, api.Tri{1, 2, 3})
	x = x.comes(t, at(0, 3), api.Tri{0, 1, 3}, api.Tri{1, 2, 4}, api.Tri{1, 4, 3})
	x = x.comes(t, at(0, 2), api.Tri{0, 1, 3}, api.Tri{1, 2, 4}, api.Tri{1, 4, 5}, api.Tri{1, 5, 3})
	if l := x.m.Border(); !slices.Equal(l, [][2]int{{0, 1}, {1, 2}, {2, 4}, {3, 0}, {4, 5}, {5, 3}}) {
		t.Error("the border:", l)
	}
}

// A fixed edge, shared or on the border, that p splits: its halves have its marker,
// whatever that is; all other ones stay.
func TestSplitFixed(t *testing.T) {
	for _, mark := range []int{0, 1, -1, 7, math.MinInt, math.MaxInt} {
		for _, e := range [][2]int{{0, 2}, {2, 0}, {0, 1}, {1, 0}, {1, 2}, {3, 2}, {0, 3}, {3, 0}} {
			x := ridge(t)
			x.m.Fix(1, 3, 40)
			x.m.Fix(0, 4, 50)
			x.m.Fix(e[0], e[1], mark)
			x.w = modelOf(x.m.Points(), x.m.Tris(), x.m.Fixes())
			p, q := x.w.points[e[0]], x.w.points[e[1]]
			y, wrong := x.takes(t, at((p.X+q.X)/2, (p.Y+q.Y)/2), 9)
			if wrong != api.OK {
				t.Fatal("Point:", wrong)
			}
			for _, s := range [][3]int{{1, 3, 40}, {0, 4, 50}, {e[0], 5, mark}, {5, e[1], mark}} {
				if got, fixed := y.m.Fixed(s[0], s[1]); got != s[2] || !fixed {
					t.Error("fixed are", y.m.Fixes(), "want", s)
				}
			}
			if l := y.m.Fixes(); len(l) != 4 {
				t.Error("fixed are", l)
			}
		}
	}
}

// A segment that is split again and again: a row of edges, all with its marker.
func TestSplitOften(t *testing.T) {
	x := made(t, []api.Point{at(0, 0), at(64, 0), at(64, 64), at(0, 64)}, []api.Tri{{0, 1, 2}, {0, 2, 3}}, [2]int{0, 2})
	r := rand.New(rand.NewPCG(18, 8))
	row := map[int]int{0: 0, 64: 2}
	for n, i := range r.Perm(63) {
		x.taken(t, at(float64(i+1), float64(i+1)), n+4, r.Uint64())
		row[i+1] = n + 4
	}
	for i := range 64 {
		if mark, fixed := x.m.Fixed(row[i], row[i+1]); mark != 5 || !fixed {
			t.Fatal("not fixed:", i)
		}
		if _, there := x.m.Apex(row[i], row[i+1]); !there {
			t.Fatal("not there:", i)
		}
	}
	if len(x.m.Fixes()) != 64 {
		t.Error("fixed are", x.m.Fixes())
	}
}

// Fixed edges that are no edges of the mesh, on which p lies, are not split; nor is one
// of the mesh that another one lies upon.
func TestFixedElsewhere(t *testing.T) {
	x := ridge(t, [2]int{1, 3}, [2]int{4, 2}, [2]int{0, 4})
	y := x.comes(t, at(1, 5), api.Tri{0, 1, 5}, api.Tri{0, 5, 3}, api.Tri{1, 2, 5}, api.Tri{2, 3, 5})
	y.fixed(t, api.Seg{A: 0, B: 4, Mark: 7}, api.Seg{A: 1, B: 3, Mark: 5}, api.Seg{A: 2, B: 4, Mark: 6})
	y = x.comes(t, at(3, 3), api.Tri{0, 1, 5}, api.Tri{0, 5, 3}, api.Tri{1, 2, 5}, api.Tri{2, 3, 5})
	y.fixed(t, api.Seg{A: 0, B: 4, Mark: 7}, api.Seg{A: 1, B: 3, Mark: 5}, api.Seg{A: 2, B: 4, Mark: 6})
	away := made(t, []api.Point{at(0, 0), at(6, 0), at(0, 6), at(9, 9), at(9, 1), at(12, 0)}, []api.Tri{{0, 1, 2}}, [2]int{3, 4}, [2]int{0, 5})
	y = away.comes(t, at(9, 5), api.Tri{0, 1, 2}, api.Tri{1, 6, 2})
	y.fixed(t, api.Seg{A: 0, B: 5, Mark: 6}, api.Seg{A: 3, B: 4, Mark: 5})
	y = away.comes(t, at(3, 0), api.Tri{0, 6, 2}, api.Tri{1, 2, 6})
	y.fixed(t, api.Seg{A: 0, B: 5, Mark: 6}, api.Seg{A: 3, B: 4, Mark: 5})
}

// Within a triangle; where the neighbours' points are within the new circles edges are
// turned, but for fixed ones.
func TestInside(t *testing.T) {
	x := made(t, []api.Point{at(0, 0), at(9, 0), at(9, 9), at(0, 9)}, []api.Tri{{0, 1, 2}, {0, 2, 3}})
	x.comes(t, at(4, 3), api.Tri{0, 1, 4}, api.Tri{0, 4, 3}, api.Tri{1, 2, 4}, api.Tri{2, 3, 4})
	x.m.Fix(0, 2, 1)
	x.w = modelOf(x.m.Points(), x.m.Tris(), x.m.Fixes())
	x.comes(t, at(4, 3), api.Tri{0, 1, 4}, api.Tri{0, 2, 3}, api.Tri{0, 4, 2}, api.Tri{1, 2, 4})
}

// Beside one edge of the border, beside several, in the line of one, and of several.
func TestOutside(t *testing.T) {
	x := ridge(t, [2]int{0, 2})
	x.comes(t, at(3, -2), api.Tri{0, 1, 2}, api.Tri{0, 2, 3}, api.Tri{0, 5, 1})
	x.comes(t, at(9, 3), api.Tri{0, 1, 2}, api.Tri{0, 2, 3}, api.Tri{1, 5, 2})
	x.comes(t, at(7, 3), api.Tri{0, 1, 5}, api.Tri{0, 2, 3}, api.Tri{0, 5, 2})
	x.comes(t, at(8, -2), api.Tri{0, 1, 2}, api.Tri{0, 2, 3}, api.Tri{0, 5, 1}, api.Tri{1, 5, 2})
	x.comes(t, at(8, 0), api.Tri{0, 1, 2}, api.Tri{0, 2, 3}, api.Tri{1, 5, 2})
	x.comes(t, at(-1, 0), api.Tri{0, 1, 2}, api.Tri{0, 2, 3}, api.Tri{0, 3, 5})
	x.comes(t, at(0, 7), api.Tri{0, 1, 2}, api.Tri{0, 2, 3}, api.Tri{2, 5, 3})
	kite := made(t, []api.Point{at(0, 0), at(4, -1), at(8, 0), at(4, 8), at(0, 0)}, []api.Tri{{0, 1, 2}, {0, 2, 3}}, [2]int{0, 2})
	kite.comes(t, at(3, -9), api.Tri{0, 1, 2}, api.Tri{0, 2, 3}, api.Tri{0, 5, 1}, api.Tri{1, 5, 2})
	roof := made(t, []api.Point{at(0, 0), at(8, 0), at(4, 4)}, []api.Tri{{0, 1, 2}})
	roof.comes(t, at(6, 6), api.Tri{0, 1, 2}, api.Tri{1, 3, 2})
	roof.comes(t, at(-1, -1), api.Tri{0, 1, 2}, api.Tri{0, 3, 1})
	lines := made(t, []api.Point{at(0, 0), at(2, 0), at(3, 1), at(3, 3), at(2, 4), at(0, 4)},
		[]api.Tri{{0, 1, 2}, {0, 2, 3}, {0, 3, 4}, {0, 4, 5}}, [2]int{0, 2}, [2]int{0, 3}, [2]int{0, 4})
	lines.comes(t, at(4, 2), api.Tri{0, 1, 2}, api.Tri{0, 2, 3}, api.Tri{0, 3, 4}, api.Tri{0, 4, 5}, api.Tri{2, 6, 3})
}

// In the line of several edges, on one side and on the other.
func TestInLines(t *testing.T) {
	x := made(t, []api.Point{at(0, 0), at(1, 0), at(2, 0), at(0, 1), at(0, 2)},
		[]api.Tri{{0, 1, 3}, {1, 2, 3}, {2, 4, 3}})
	x.w = x.w.with(x.m.Tris())
	x.comes(t, at(3, 0), api.Tri{0, 1, 3}, api.Tri{1, 2, 3}, api.Tri{2, 4, 3}, api.Tri{2, 5, 4})
	x.comes(t, at(0, 3), api.Tri{0, 1, 3}, api.Tri{1, 2, 3}, api.Tri{2, 4, 3}, api.Tri{2, 5, 4})
	y := x.comes(t, at(-1, 0), api.Tri{0, 1, 3}, api.Tri{0, 3, 5}, api.Tri{1, 2, 3}, api.Tri{2, 4, 3}, api.Tri{3, 4, 5})
	if !y.w.isTriangulation() {
		t.Error("no triangulation:", y.w.tris)
	}
}

// frame is a square with a square hole.
func frame(t *testing.T) pair {
	t.Helper()
	points := []api.Point{at(0, 0), at(9, 0), at(9, 9), at(0, 9), at(3, 3), at(6, 3), at(6, 6), at(3, 6)}
	return made(t, points, []api.Tri{{0, 1, 4}, {1, 5, 4}, {1, 2, 5}, {2, 6, 5}, {2, 3, 6}, {3, 7, 6}, {3, 0, 7}, {0, 4, 7}})
}

// In a hole p lies right of the edges around it, and is joined with them; on the edge
// of the hole, and on a corner, as elsewhere.
func TestHole(t *testing.T) {
	x := frame(t)
	for i, e := range x.m.Edges() {
		x.m.Fix(e[0], e[1], i)
	}
	x.w = modelOf(x.m.Points(), x.m.Tris(), x.m.Fixes())
	whole := slices.Concat(x.m.Tris(), []api.Tri{{4, 5, 8}, {4, 8, 7}, {5, 6, 8}, {6, 7, 8}})
	y := x.comes(t, at(4, 5), ownOrder(whole)...)
	if !y.w.isTriangulation() {
		t.Error("no triangulation:", y.w.tris)
	}
	y = x.comes(t, at(4, 3), ownOrder(append(slices.DeleteFunc(x.m.Tris(), func(c api.Tri) bool { return c == api.Tri{1, 5, 4} }), api.Tri{1, 5, 8}, api.Tri{1, 8, 4}))...)
	y.refused(t, at(4, 3), api.ErrTwice)
	x.refused(t, at(6, 3), api.ErrTwice)
}

// A hole of which p sees a part alone, and a border that has p right of edges behind
// which the mesh goes on: all of which it lies right are joined, by the words.
func TestHiddenEdges(t *testing.T) {
	hook := made(t, []api.Point{at(0, 0), at(9, 0), at(9, 9), at(6, 9), at(6, 3), at(0, 3)},
		[]api.Tri{{0, 1, 4}, {0, 4, 5}, {1, 2, 4}, {2, 3, 4}})
	for _, e := range hook.m.Edges() {
		hook.m.Fix(e[0], e[1], 1)
	}
	hook.w = modelOf(hook.m.Points(), hook.m.Tris(), hook.m.Fixes())
	hook.comes(t, at(2, 6), api.Tri{0, 1, 4}, api.Tri{0, 4, 5}, api.Tri{1, 2, 4}, api.Tri{2, 3, 4}, api.Tri{3, 6, 4}, api.Tri{4, 6, 5})
	hook.comes(t, at(12, 4), api.Tri{0, 1, 4}, api.Tri{0, 4, 5}, api.Tri{1, 2, 4}, api.Tri{1, 6, 2}, api.Tri{2, 3, 4}, api.Tri{4, 6, 5})
}

// wings are two triangles with a corner in common.
func wings(t *testing.T) pair {
	t.Helper()
	return made(t, []api.Point{at(0, 0), at(4, -1), at(4, 1), at(3, 3), at(2, 3)}, []api.Tri{{0, 1, 2}, {0, 3, 4}})
}

// Where p lies right of two edges that begin, or end, at the same corner, no triangle
// may be made over both; elsewhere it is taken in.
func TestMayNotBeMade(t *testing.T) {
	x := wings(t)
	x.refused(t, at(1, -5), api.ErrMesh)
	x.refused(t, at(-5, 4), api.ErrMesh)
	for _, p := range []api.Point{at(1, -5), at(-5, 4)} {
		if _, e := x.takes(t, p, 0); e != api.ErrMesh {
			t.Error("Point:", e)
		}
	}
	x.comes(t, at(3, 2), api.Tri{0, 1, 2}, api.Tri{0, 2, 5}, api.Tri{0, 5, 4}, api.Tri{3, 4, 5})
	x.comes(t, at(2, 0), api.Tri{0, 1, 5}, api.Tri{0, 3, 4}, api.Tri{0, 5, 2}, api.Tri{1, 2, 5})
	fans := made(t, []api.Point{at(0, 0), at(4, -1), at(4, 1), at(3, 3), at(2, 3), at(-1, 3), at(-2, 3)}, []api.Tri{{0, 1, 2}, {0, 3, 4}, {0, 5, 6}})
	fans.refused(t, at(5, 3), api.ErrMesh)
	fans.refused(t, at(-5, -5), api.ErrMesh)
}

// An Outside point lies right of some edge of the border, in whatever mesh: it can't go
// around all triangles without being beside one. So ErrMesh is told where two begin, or
// end, at one corner, and nowhere else.
func TestAlwaysBesideSome(t *testing.T) {
	r := rand.New(rand.NewPCG(18, 9))
	looked := 0
	for i := range 400 {
		x := drawnPair(t, r, 3)
		if i%2 == 0 {
			x = drawnPile(t, r, 8)
		}
		for range 20 {
			p := drawnPoint(r, x.w)
			if place, _ := walk.Find(x.m, p, 0); place.Kind != api.Outside || x.m.Count() == 0 {
				continue
			}
			looked++
			if !slices.ContainsFunc(x.m.Border(), func(e [2]int) bool {
				return twice(x.w.spots[e[0]], x.w.spots[e[1]], spotOf(p)).Sign() < 0
			}) {
				t.Fatalf("%v lies right of no edge of the border of %v, %v", p, x.w.points, x.w.tris)
			}
		}
	}
	if looked < 1000 {
		t.Error("too few were looked at:", looked)
	}
}

// Triangles of several parts: within one of them, and between, right of edges of both.
func TestParts(t *testing.T) {
	points := []api.Point{at(0, 0), at(2, 0), at(0, 2), at(9, 0), at(9, 2), at(7, 1)}
	x := made(t, points, []api.Tri{{0, 1, 2}, {3, 4, 5}})
	x.comes(t, at(0.5, 0.5), api.Tri{0, 1, 6}, api.Tri{0, 6, 2}, api.Tri{1, 2, 6}, api.Tri{3, 4, 5})
	x.comes(t, at(8, 1), api.Tri{0, 1, 2}, api.Tri{3, 4, 6}, api.Tri{3, 6, 5}, api.Tri{4, 5, 6})
	x.comes(t, at(9, 1), api.Tri{0, 1, 2}, api.Tri{3, 6, 5}, api.Tri{4, 5, 6})
	x.comes(t, at(4, 1), api.Tri{0, 1, 2}, api.Tri{1, 6, 2}, api.Tri{3, 4, 5}, api.Tri{3, 5, 6}, api.Tri{4, 6, 5})
}

// Triangles that lie upon one another: p is taken in at one of its places.
func TestUponOneAnother(t *testing.T) {
	points := []api.Point{at(0, 0), at(8, 0), at(0, 8), at(1, 1), at(3, 1), at(1, 3), at(0, 0), at(8, 0), at(0, 8)}
	for _, tris := range [][]api.Tri{
		{{0, 1, 2}, {3, 4, 5}},
		{{0, 1, 2}, {6, 7, 8}},
		{{0, 1, 2}, {6, 7, 2}, {0, 7, 8}, {6, 1, 8}},
		{{0, 1, 2}, {0, 4, 5}, {1, 5, 3}, {2, 3, 4}},
	} {
		x := made(t, points, tris, [2]int{1, 2}, [2]int{7, 8}, [2]int{4, 5}, [2]int{0, 1})
		for _, p := range []api.Point{at(1.5, 1.5), at(2, 2), at(4, 4), at(4, 0), at(0, 4), at(9, 9), at(-1, -1), at(4, -1), at(2, 1), at(6, 1)} {
			for _, seed := range seeds {
				x.takes(t, p, seed)
			}
		}
	}
}

// Corners that are alike: p on them is there already, whichever is found; on edges that
// lie upon one another one is split, and of the fixed ones that one.
func TestAlikeCorners(t *testing.T) {
	x := made(t, []api.Point{at(0, 0), at(4, 0), at(2, 5), at(0, 0), at(4, 0), at(2, -5)}, []api.Tri{{0, 1, 2}, {3, 5, 4}}, [2]int{0, 1}, [2]int{3, 4})
	x.refused(t, at(0, 0), api.ErrTwice)
	x.refused(t, at(4, math.Copysign(0, -1)), api.ErrTwice)
	for seed := range uint64(40) {
		y, e := x.takes(t, at(2, 0), seed)
		if e != api.OK || y.m.Count() != 3 || len(y.m.Fixes()) != 3 {
			t.Fatal("Point:", e, y.m.Tris(), y.m.Fixes())
		}
		if _, fixed := y.m.Fixed(0, 6); fixed {
			y.fixed(t, api.Seg{A: 0, B: 6, Mark: 5}, api.Seg{A: 1, B: 6, Mark: 5}, api.Seg{A: 3, B: 4, Mark: 6})
		} else {
			y.fixed(t, api.Seg{A: 0, B: 1, Mark: 5}, api.Seg{A: 3, B: 6, Mark: 6}, api.Seg{A: 4, B: 6, Mark: 6})
		}
	}
}

// Points that are no corners hinder nothing: p on one of them has a number of its own.
func TestAlikeLoose(t *testing.T) {
	x := ridge(t, [2]int{0, 2}, [2]int{4, 1})
	y := x.comes(t, at(3, 1), api.Tri{0, 1, 5}, api.Tri{0, 2, 3}, api.Tri{0, 5, 2}, api.Tri{1, 2, 5})
	y.fixed(t, api.Seg{A: 0, B: 2, Mark: 5}, api.Seg{A: 1, B: 4, Mark: 6})
	y.refused(t, at(3, 1), api.ErrTwice)
	if len(y.m.Spokes(4)) > 0 {
		t.Error("the loose point is a corner:", y.m.Tris())
	}
	out := made(t, []api.Point{at(0, 0), at(4, 0), at(0, 4), at(9, 9)}, []api.Tri{{0, 1, 2}})
	out.comes(t, at(9, 9), api.Tri{0, 1, 2}, api.Tri{1, 4, 2})
}

// Edges that are out of order already: one of a triangle that comes is turned, and what
// is around it; one further away is left.
func TestOutOfOrder(t *testing.T) {
	crooked := []api.Point{at(0, 0), at(9, 0), at(9, 9), at(1, 2)}
	x := made(t, append(crooked, at(20, 0), at(29, 0), at(29, 9), at(21, 2), at(3, -20)), []api.Tri{{0, 1, 2}, {0, 2, 3}, {4, 5, 6}, {4, 6, 7}, {0, 8, 1}})
	if wrong := x.w.wrong(); !slices.Equal(wrong, [][2]int{{0, 2}, {4, 6}}) {
		t.Fatal("out of order:", wrong)
	}
	x.comes(t, at(0.5, 1), api.Tri{0, 1, 9}, api.Tri{0, 8, 1}, api.Tri{1, 2, 3}, api.Tri{1, 3, 9}, api.Tri{4, 5, 6}, api.Tri{4, 6, 7})
	x.comes(t, at(3, -15), api.Tri{0, 1, 2}, api.Tri{0, 2, 3}, api.Tri{0, 8, 9}, api.Tri{0, 9, 1}, api.Tri{1, 9, 8}, api.Tri{4, 5, 6}, api.Tri{4, 6, 7})
	x.comes(t, at(28, 0.5), api.Tri{0, 1, 2}, api.Tri{0, 2, 3}, api.Tri{0, 8, 1}, api.Tri{4, 5, 9}, api.Tri{4, 9, 7}, api.Tri{5, 6, 9}, api.Tri{6, 7, 9})
}

// Four corners on one circle: p within it, on it and on the middle of it.
func TestOnOneCircle(t *testing.T) {
	x := made(t, []api.Point{at(-5, 0), at(0, -5), at(5, 0), at(0, 5)}, []api.Tri{{0, 1, 2}, {0, 2, 3}})
	x.comes(t, at(0, 0), api.Tri{0, 1, 4}, api.Tri{0, 4, 3}, api.Tri{1, 2, 4}, api.Tri{2, 3, 4})
	x.comes(t, at(1, 1), api.Tri{0, 1, 4}, api.Tri{0, 4, 3}, api.Tri{1, 2, 4}, api.Tri{2, 3, 4})
	x.comes(t, at(3, 4), api.Tri{0, 1, 2}, api.Tri{0, 2, 3}, api.Tri{2, 4, 3})
	x.comes(t, at(-4, -3), api.Tri{0, 1, 2}, api.Tri{0, 2, 3}, api.Tri{0, 4, 1})
	grid := made(t, []api.Point{at(0, 0), at(8, 0), at(0, 8)}, []api.Tri{{0, 1, 2}})
	r := rand.New(rand.NewPCG(18, 10))
	for _, i := range r.Perm(81) {
		if p := at(float64(i%9), float64(i/9)); p != at(0, 0) && p != at(8, 0) && p != at(0, 8) {
			grid.taken(t, p, grid.m.Len(), r.Uint64())
		}
	}
	grid.w = modelOf(grid.m.Points(), grid.m.Tris(), nil)
	if grid.m.Count() != 128 || !grid.w.isTriangulation() || len(grid.w.wrong()) > 0 {
		t.Error("a grid:", grid.m.Count(), grid.w.wrong())
	}
}

// 0 and -0 are one number, and a point that is taken in has no -0.
func TestMinusZero(t *testing.T) {
	minus := math.Copysign(0, -1)
	for _, p := range []api.Point{at(minus, 2), at(2, minus), at(minus, -3), at(-3, minus)} {
		x := corner(t)
		x.taken(t, p, 3, 0)
		q, _ := x.m.Point(3)
		if q != p || math.Signbit(q.X) != (q.X < 0) || math.Signbit(q.Y) != (q.Y < 0) {
			t.Error("a -0 is told:", q)
		}
		x.refused(t, at(p.X+0, p.Y+0), api.ErrTwice)
		x.refused(t, p, api.ErrTwice)
	}
	for _, p := range []api.Point{at(minus, 0), at(0, minus), at(minus, minus), at(4, minus), at(minus, 4)} {
		corner(t).refused(t, p, api.ErrTwice)
	}
	x := made(t, []api.Point{at(minus, minus), at(4, minus), at(minus, 4)}, []api.Tri{{0, 1, 2}})
	x.refused(t, at(0, 0), api.ErrTwice)
	x.comes(t, at(0, 1), api.Tri{0, 1, 3}, api.Tri{1, 2, 3})
}

// Points and steps of very great and very small size: the least step beside an edge is
// no longer on it.
func TestExactly(t *testing.T) {
	const most, step = 0x1p100, 0x1p-100
	great := made(t, []api.Point{at(-most, -most), at(most, -most), at(-most, most)}, []api.Tri{{0, 1, 2}}, [2]int{1, 2})
	great.comes(t, at(0, 0), api.Tri{0, 1, 3}, api.Tri{0, 3, 2})
	great.comes(t, at(-step, 0), api.Tri{0, 1, 3}, api.Tri{0, 3, 2}, api.Tri{1, 2, 3})
	great.comes(t, at(0, step), api.Tri{0, 1, 2}, api.Tri{1, 3, 2})
	great.comes(t, at(most, most), api.Tri{0, 1, 2}, api.Tri{1, 3, 2})
	small := made(t, []api.Point{at(0, 0), at(4*step, 0), at(0, 4*step)}, []api.Tri{{0, 1, 2}})
	small.comes(t, at(step, step), api.Tri{0, 1, 3}, api.Tri{0, 3, 2}, api.Tri{1, 2, 3})
	small.comes(t, at(step, 3*step), api.Tri{0, 1, 3}, api.Tri{0, 3, 2})
	small.comes(t, at(most, most), api.Tri{0, 1, 2}, api.Tri{1, 3, 2})
	small.comes(t, at(-step, 0), api.Tri{0, 1, 2}, api.Tri{0, 2, 3})
	slim := made(t, []api.Point{at(0, 0), at(most, step), at(0, 1)}, []api.Tri{{0, 1, 2}}, [2]int{0, 1})
	slim.comes(t, at(most/2, step), api.Tri{0, 1, 3}, api.Tri{0, 3, 2}, api.Tri{1, 2, 3})
	slim.comes(t, at(most/2, 0), api.Tri{0, 1, 2}, api.Tri{0, 3, 1})
	slim.comes(t, at(0, step), api.Tri{0, 1, 3}, api.Tri{1, 2, 3})
	tenths := made(t, []api.Point{at(0.1, 0.1), at(0.7, 0.7), at(0, 1)}, []api.Tri{{0, 1, 2}}, [2]int{0, 1})
	tenths.comes(t, at(0.3, 0.3), api.Tri{0, 3, 2}, api.Tri{1, 2, 3})
	tenths.comes(t, at(0.3, math.Nextafter(0.3, 1)), api.Tri{0, 1, 3}, api.Tri{0, 3, 2}, api.Tri{1, 2, 3})
	tenths.comes(t, at(math.Nextafter(0.3, 1), 0.3), api.Tri{0, 1, 2}, api.Tri{0, 3, 1})
}

// A row of points on one circle, each of them outside of those before; and a row on
// the line of an edge.
func TestRows(t *testing.T) {
	var round []api.Point
	for _, p := range [][2]float64{{63, 16}, {60, 25}, {56, 33}, {52, 39}, {39, 52}, {33, 56}, {25, 60}, {16, 63}, {0, 65}} {
		round = append(round, at(p[0], p[1]), at(-p[1], p[0]), at(-p[0], -p[1]), at(p[1], -p[0]))
	}
	x := made(t, []api.Point{at(65, 0), at(-65, 0), at(-63, 16)}, []api.Tri{{0, 2, 1}})
	taken := 0
	for _, p := range round {
		y, e := x.takes(t, p, 3)
		if e == api.OK {
			x, taken = y, taken+1
			if !x.w.isTriangulation() || len(x.w.wrong()) > 0 {
				t.Fatal("points on a circle:", x.w.tris)
			}
		}
	}
	if x.m.Count() != taken+1 || taken < 30 {
		t.Error("triangles of points on a circle:", x.m.Count(), taken)
	}
	line := made(t, []api.Point{at(0, 0), at(1, 0), at(0, 1)}, []api.Tri{{0, 1, 2}})
	for i := range 30 {
		y, e := line.takes(t, at(float64(i+2), 0), 3)
		if line = y; e != api.OK || line.m.Count() != i+2 || !line.w.isTriangulation() {
			t.Fatal("points on a line:", e, line.w.tris)
		}
	}
}

// What is done to a mesh in between is seen: triangles gone and come, edges turned,
// fixed and loose.
func TestBetweenChanges(t *testing.T) {
	x := ridge(t, [2]int{0, 2})
	x.taken(t, at(3, 3), 5, 1)
	x.m.Kill(0, 1, 5)
	x.refused(t, at(3, 3), api.ErrTwice)
	x.m.Loose(0, 5)
	x.m.Loose(5, 2)
	if e := flip.Turn(x.m, 2, 5); e != api.ErrMesh {
		t.Error("Turn:", e)
	}
	x.w = modelOf(x.m.Points(), x.m.Tris(), x.m.Fixes())
	x, _ = x.takes(t, at(3, 2), 1)
	x.fixed(t)
	x, _ = x.takes(t, at(2.5, 2.5), 1)
	if n, e := insert.Point(x.m, at(4, 4), 1); n != 8 || e != api.OK {
		t.Error("Point:", n, e)
	}
}
