package insert_test

import (
	"math"
	"slices"
	"testing"

	"trivet/api"
	"trivet/insert"
)

// seeds are some of all kinds.
var seeds = []uint64{0, 1, 2, 5, 1 << 31, 1 << 63, math.MaxUint64}

// corner is the chapter's mesh.
func corner(t *testing.T, fixes ...[2]int) pair {
	t.Helper()
	return made(t, []api.Point{at(0, 0), at(4, 0), at(0, 4)}, []api.Tri{{0, 1, 2}}, fixes...)
}

// taken wants a point to be taken in, with this number.
func (x pair) taken(t *testing.T, p api.Point, want int, seed uint64) {
	t.Helper()
	if n, e := insert.Point(x.m, p, seed); n != want || e != api.OK {
		t.Fatalf("Point of %v: %d, %v; want %d", p, n, e, want)
	}
}

// refused wants a point not to be taken in, with whatever seed, and nothing to be
// changed by it.
func (x pair) refused(t *testing.T, p api.Point, want api.Errno) {
	t.Helper()
	before := told(x.m)
	for _, seed := range seeds {
		if n, e := insert.Point(x.m, p, seed); n != 0 || e != want {
			t.Errorf("Point of %v: %d, %v; want %v", p, n, e, want)
		}
	}
	if after := told(x.m); !after.same(before) {
		t.Errorf("Point of %v was refused, and changed %v to %v", p, before, after)
	}
}

// has wants just these triangles, in their own order.
func (x pair) has(t *testing.T, tris ...api.Tri) {
	t.Helper()
	if got := x.m.Tris(); !slices.Equal(got, tris) {
		t.Errorf("triangles %v; want %v", got, tris)
	}
}

// fixed wants just these edges to be fixed.
func (x pair) fixed(t *testing.T, fixes ...api.Seg) {
	t.Helper()
	if got := x.m.Fixes(); !slices.Equal(got, fixes) {
		t.Errorf("fixed are %v; want %v", got, fixes)
	}
}

// comes takes a point into a copy, with each of several seeds, and wants just these
// triangles.
func (x pair) comes(t *testing.T, p api.Point, tris ...api.Tri) pair {
	t.Helper()
	var y pair
	for _, seed := range seeds {
		var e api.Errno
		if y, e = x.takes(t, p, seed); e != api.OK {
			t.Errorf("Point of %v: %v", p, e)
		}
		y.has(t, tris...)
	}
	return y
}

// The chapter's first example.
func TestExampleTaken(t *testing.T) {
	corner(t).comes(t, at(1, 1), api.Tri{0, 1, 3}, api.Tri{0, 3, 2}, api.Tri{1, 2, 3})
	corner(t).comes(t, at(2, 2), api.Tri{0, 1, 3}, api.Tri{0, 3, 2})
	corner(t).comes(t, at(4, 4), api.Tri{0, 1, 2}, api.Tri{1, 3, 2})
	corner(t).refused(t, at(0, 0), api.ErrTwice)
	made(t, []api.Point{at(0, 0), at(4, 0), at(0, 4)}, nil).refused(t, at(0, 0), api.ErrNone)
	x := corner(t)
	x.taken(t, at(1, 1), 3, 0)
	x.taken(t, at(2, 2), 4, 0)
	x.taken(t, at(4, 4), 5, 0)
}

// The chapter's second example.
func TestExampleFixed(t *testing.T) {
	x := corner(t)
	x.m.Fix(1, 2, 7)
	x.taken(t, at(2, 2), 3, 0)
	x.fixed(t, api.Seg{A: 1, B: 3, Mark: 7}, api.Seg{A: 2, B: 3, Mark: 7})
	x.has(t, api.Tri{0, 1, 3}, api.Tri{0, 3, 2})
}

// A point that was taken in is there, and can't be taken in once more.
func TestTwice(t *testing.T) {
	x := corner(t)
	for n, p := range []api.Point{at(1, 1), at(2, 2), at(4, 4), at(0, 2), at(-3, 1), at(1, 0x1p-100), at(9, 9)} {
		x.taken(t, p, n+3, uint64(n))
		x.refused(t, p, api.ErrTwice)
	}
}
