package mesh_test

import (
	"math"
	"math/rand/v2"
	"slices"
	"testing"

	"trivet/api"
)

// drawnPoint is often alike another one, and lies often on a line with others.
func drawnPoint(r *rand.Rand) api.Point {
	p := at(float64(r.IntN(7)-3), float64(r.IntN(7)-3))
	switch r.IntN(6) {
	case 0:
		p.X *= 0x1p-100
	case 1:
		p.Y *= 0x1p97
	case 2:
		p = at(r.Float64(), -r.Float64())
	case 3:
		p = at(math.Copysign(0, -1), p.Y)
	}
	return p
}

func drawnPoints(r *rand.Rand, n int) []api.Point {
	l := make([]api.Point, n)
	for i := range l {
		l[i] = drawnPoint(r)
	}
	return l
}

// drawnNumber is mostly a point's.
func drawnNumber(r *rand.Rand, n int) int {
	if n == 0 || r.IntN(20) == 0 {
		odd := oddNumbers(n)
		return odd[r.IntN(len(odd))]
	}
	return r.IntN(n)
}

func drawnTri(r *rand.Rand, n int) api.Tri {
	return api.Tri{drawnNumber(r, n), drawnNumber(r, n), drawnNumber(r, n)}
}

// oneThere is a triangle that is there, from some corner on, if there is one.
func oneThere(r *rand.Rand, w *model) api.Tri {
	if len(w.tris) == 0 {
		return api.Tri{}
	}
	return turned(w.tris[r.IntN(len(w.tris))], r.IntN(3))
}

// shuffled are triangles in another order, each from some corner on.
func shuffled(r *rand.Rand, tris []api.Tri) []api.Tri {
	l := slices.Clone(tris)
	for i := range l {
		l[i] = turned(l[i], r.IntN(3))
	}
	r.Shuffle(len(l), func(i, j int) { l[i], l[j] = l[j], l[i] })
	return l
}

// drawnChange does one thing to a mesh and its model.
func drawnChange(t *testing.T, r *rand.Rand, x pair, wrong []api.Point) {
	t.Helper()
	n := len(x.w.points)
	switch r.IntN(16) {
	case 0:
		x.add(t, drawnPoint(r), false)
	case 1:
		x.add(t, wrong[r.IntN(len(wrong))], true)
	case 2, 3:
		x.kill(t, oneThere(r, x.w))
	case 5:
		x.kill(t, drawnTri(r, n))
	case 6, 7:
		x.fix(t, drawnNumber(r, n), drawnNumber(r, n), r.IntN(9)-4)
	case 8:
		c := oneThere(r, x.w)
		x.loose(t, c[0], c[1])
	case 9:
		x.loose(t, drawnNumber(r, n), drawnNumber(r, n))
	default:
		for range 8 {
			c := drawnTri(r, n)
			if x.make(t, c) == api.OK {
				break
			}
		}
	}
}

// Rows of drawn calls on meshes with few points, some of which are copies of
// others, or made anew of their points and triangles: behind each call all of them
// are what their models say.
func TestDrawnCalls(t *testing.T) {
	r := rand.New(rand.NewPCG(15, 1))
	wrong := wrongPoints()
	most := 0
	for range 40 {
		meshes := []pair{bare(t, drawnPoints(r, r.IntN(13)))}
		for range 150 {
			i := r.IntN(len(meshes))
			x := meshes[i]
			switch r.IntN(30) {
			case 0:
				x = pair{x.Copy(), x.w.copy()}
			case 1:
				x = made(t, x.Points(), shuffled(r, x.Tris()))
			case 2:
				x = bare(t, x.Points())
			default:
				drawnChange(t, r, x, wrong)
			}
			if len(meshes) < 3 {
				meshes = append(meshes, x)
			} else {
				meshes[i] = x
			}
			for _, y := range meshes {
				allAgree(t, y.Mesh, y.w)
			}
			most = max(most, x.Count())
		}
	}
	if most < 12 {
		t.Error("no mesh had more triangles than", most)
	}
}

// gridOf are the points of a grid, and two triangles for each of its squares.
func gridOf(n int) ([]api.Point, []api.Tri) {
	var points []api.Point
	var tris []api.Tri
	for i := range n * n {
		points = append(points, at(float64(i%n), float64(i/n)))
		if i%n < n-1 && i/n < n-1 {
			tris = append(tris, api.Tri{i, i + 1, i + n}, api.Tri{i + n + 1, i + n, i + 1})
		}
	}
	return points, tris
}

// Rows of drawn calls on a mesh with many points: triangles go, come again, and
// others come over them.
func TestDrawnCallsOnMany(t *testing.T) {
	r := rand.New(rand.NewPCG(15, 2))
	wrong := wrongPoints()
	points, tris := gridOf(24)
	x := made(t, points, shuffled(r, tris))
	for step := range 700 {
		if step%100 == 0 {
			x = pair{x.Copy(), x.w.copy()}
		}
		drawnChange(t, r, x, wrong)
		if step%3 == 0 {
			x.kill(t, oneThere(r, x.w))
			x.make(t, tris[r.IntN(len(tris))])
		}
		c := oneThere(r, x.w)
		agree(t, x.Mesh, x.w, append(c[:], drawnNumber(r, x.Len()), drawnNumber(r, x.Len())))
	}
	if x.Count() < 700 {
		t.Error("too few triangles are left:", x.Count())
	}
}

// fan are n + 2 points and n triangles, all of which have the first point as a corner.
func fan(n int) ([]api.Point, []api.Tri) {
	points, tris := []api.Point{at(0, 0), at(0, 1)}, make([]api.Tri, n)
	for i := range tris {
		points = append(points, at(float64(i+1), 1))
		tris[i] = api.Tri{0, i + 2, i + 1}
	}
	return points, tris
}

// A point of very many triangles: they come and go in any order, soon enough.
func TestVeryManyAroundOnePoint(t *testing.T) {
	r := rand.New(rand.NewPCG(15, 3))
	const n = 200000
	points, tris := fan(n)
	x := made(t, points, shuffled(r, tris))
	spokes := x.Spokes(0)
	if len(spokes) != n+1 || spokes[0] != 1 || spokes[n] != n+1 || !slices.IsSorted(spokes) {
		t.Error("spokes:", len(spokes))
	}
	left := shuffled(r, tris)
	for i, c := range left {
		if e := x.Kill(c[0], c[1], c[2]); e != api.OK || x.Count() != n-i-1 {
			t.Fatal("Kill:", e, x.Count())
		}
		if i == n/2 {
			anew := made(t, points, left[i+1:])
			if !told(x.Mesh).same(told(anew.Mesh)) {
				t.Fatal("half of the triangles are gone, and others than those are left")
			}
		}
	}
	if len(x.Spokes(0)) > 0 || len(x.Edges()) > 0 {
		t.Error("spokes are left:", x.Spokes(0))
	}
}
