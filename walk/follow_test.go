package walk_test

import (
	"math/rand/v2"
	"slices"
	"testing"

	"trivet/api"
	"trivet/walk"
)

// P16.3: where a point has one place, it is told, whatever the seed: many of them,
// the first ones, the last ones, and others.
func TestAnySeed(t *testing.T) {
	r := rand.New(rand.NewPCG(16, 5))
	ones := 0
	for range 40 {
		x := drawnPair(t, r, 9)
		for range 6 {
			p := drawnPoint(r, x.w)
			places := x.w.places(p)
			if len(places) > 1 {
				t.Fatal("several places in a mesh whose triangles lie side by side:", places)
			}
			ones++
			for i := range uint64(200) {
				for _, seed := range []uint64{i, -i, r.Uint64(), 1 << (i % 64)} {
					if got, e := walk.Find(x.m, p, seed); e != api.OK || got != places[0] {
						t.Fatalf("Find of %x, seed %d: %v, %v; want %v", p, seed, got, e, places)
					}
				}
			}
		}
	}
	if ones < 200 {
		t.Error("too few points:", ones)
	}
}

// thirds are points whose middles are floats, at any size.
func thirds(r *rand.Rand, points []api.Point) []api.Point {
	l := make([]api.Point, len(points))
	for i, p := range points {
		l[i] = at(p.X*6, p.Y*6)
	}
	return grown(l, r.IntN(160)-80)
}

// drawnThirds is a mesh whose points are whole numbers of sixes of one size: of
// triangles side by side, or upon one another.
func drawnThirds(t *testing.T, r *rand.Rand) (pair, bool) {
	t.Helper()
	if r.IntN(2) == 0 {
		x := drawnPile(t, r)
		return made(t, thirds(r, x.w.points), x.w.tris), false
	}
	points, tris := jittered(r, 2+r.IntN(8), 2+r.IntN(8))
	points, tris = shuffled(r, thirds(r, points), tris)
	return made(t, points, tris[:r.IntN(len(tris)+1)]), true
}

// P16.4: corners, middles of edges and middles of triangles are never Outside; they
// are what they are, where triangles lie side by side.
func TestFound(t *testing.T) {
	r := rand.New(rand.NewPCG(16, 6))
	asked := 0
	for range 300 {
		x, sideBySide := drawnThirds(t, r)
		kindIs := func(p api.Point, kind uint8) {
			asked++
			for _, seed := range drawnSeeds(r) {
				got, e := walk.Find(x.m, p, seed)
				if e != api.OK || got.Kind == api.Outside || got.Kind == 0 || sideBySide && got.Kind != kind {
					t.Fatalf("Find of %x: %v, %v; want the kind %d\ntriangles %v", p, got, e, kind, x.w.tris)
				}
			}
		}
		for _, c := range x.w.tris {
			a, b, d := x.w.points[c[0]], x.w.points[c[1]], x.w.points[c[2]]
			kindIs(a, api.OnPoint)
			kindIs(at((a.X+b.X)/2, (a.Y+b.Y)/2), api.OnEdge)
			kindIs(at((b.X+d.X)/2, (b.Y+d.Y)/2), api.OnEdge)
			kindIs(at((a.X+b.X+d.X)/3, (a.Y+b.Y+d.Y)/3), api.Inside)
		}
	}
	if asked < 10000 {
		t.Error("too few points:", asked)
	}
}

// pointsOf are the points of numbers.
func (x pair) pointsOf(numbers []int) []api.Point {
	var l []api.Point
	for _, i := range numbers {
		l = append(l, x.w.points[i])
	}
	return l
}

// P16.5: there and back the edges are the same, and the corners, the other way
// about, but for alike ones, which rise both ways.
func TestBothWays(t *testing.T) {
	r := rand.New(rand.NewPCG(16, 7))
	edges, corners, alike := 0, 0, 0
	for i := range 600 {
		x := drawnPile(t, r)
		if i%3 == 0 {
			x = drawnPair(t, r, 9)
		}
		for range 30 {
			a, b := r.IntN(len(x.w.points)), r.IntN(len(x.w.points))
			across, e := walk.Across(x.m, a, b)
			back, e2 := walk.Across(x.m, b, a)
			if e != api.OK || e2 != api.OK || !slices.Equal(across, back) {
				t.Fatal("Across:", across, back, e, e2)
			}
			to, e := walk.Through(x.m, a, b)
			fro, e2 := walk.Through(x.m, b, a)
			there, andBack := x.pointsOf(to), x.pointsOf(fro)
			slices.Reverse(andBack)
			if e != api.OK || e2 != api.OK || !slices.Equal(there, andBack) || !slices.Equal(slices.Sorted(slices.Values(to)), slices.Sorted(slices.Values(fro))) {
				t.Fatal("Through:", to, fro, e, e2)
			}
			edges, corners = edges+len(across), corners+len(to)
			alike += len(there) - len(slices.Compact(slices.Clone(there)))
		}
	}
	if edges < 20000 || corners < 500 || alike < 30 {
		t.Error("too little was in the way:", edges, corners, alike)
	}
}
