package admit_test

import (
	"math"
	"math/rand/v2"
	"slices"
	"testing"

	"trivet/admit"
	"trivet/api"
	"trivet/orient"
)

// orderAsked holds P7.3: each number once, each ahead of the next one.
func orderAsked(t *testing.T, l []api.Point) {
	t.Helper()
	order := admit.Order(l)
	seen := make([]int, len(l))
	for k, i := range order {
		seen[i]++
		if k == 0 {
			continue
		}
		last := order[k-1]
		if c := admit.Cmp(l[last], l[i]); c > 0 || c == 0 && last >= i {
			t.Fatalf("number %d comes ahead of %d: %x, %x", last, i, l[last], l[i])
		}
	}
	if len(order) != len(l) || slices.ContainsFunc(seen, func(n int) bool { return n != 1 }) {
		t.Fatalf("%d points' order does not have each number once", len(l))
	}
}

// inOrder are a list's points in their order.
func inOrder(l []api.Point, order []int) []api.Point {
	var points []api.Point
	for _, i := range order {
		points = append(points, l[i])
	}
	return points
}

func alike(p, q api.Point) bool { return p.X == q.X && p.Y == q.Y }

// P7.3: turned about, or shuffled, other numbers tell the same points.
func TestOrderTurnedAbout(t *testing.T) {
	r := rand.New(rand.NewPCG(7, 4))
	for range 2000 {
		l := drawnList(r)
		orderAsked(t, l)
		want, unlike := inOrder(l, admit.Order(l)), inOrder(l, admit.Unlike(l))
		for turn := range 4 {
			if slices.Reverse(l); turn > 0 {
				r.Shuffle(len(l), func(i, j int) { l[i], l[j] = l[j], l[i] })
			}
			orderAsked(t, l)
			if got := inOrder(l, admit.Order(l)); !slices.EqualFunc(got, want, alike) {
				t.Fatalf("turned about, the points of %x come as %x, not as %x", l, got, want)
			}
			if got := inOrder(l, admit.Unlike(l)); !slices.EqualFunc(got, unlike, alike) {
				t.Fatalf("turned about, the unlike points of %x come as %x, not as %x", l, got, unlike)
			}
		}
	}
}

// P7.4.
func TestTwins(t *testing.T) {
	r := rand.New(rand.NewPCG(7, 5))
	for range 2000 {
		l := drawnList(r)
		twins := admit.Twins(l)
		if len(twins) != len(l) {
			t.Fatalf("%d points, %d twins", len(l), len(twins))
		}
		for i, twin := range twins {
			if twin > i || twins[twin] != twin || !alike(l[i], l[twin]) {
				t.Fatalf("%x: the twin of %d is %d", l, i, twin)
			}
			for j, other := range twins {
				if (twin == other) != alike(l[i], l[j]) {
					t.Fatalf("%x: the twins of %d and %d are %d and %d", l, i, j, twin, other)
				}
			}
		}
	}
}

// onOneLine: points a + k d, which are floats exactly, in any order; some of
// them alike.
func onOneLine(r *rand.Rand) []api.Point {
	draw := func() int { return r.IntN(1<<21) - 1<<20 }
	ax, ay, dx, dy := draw(), draw(), draw(), draw()
	switch r.IntN(6) {
	case 0:
		dx = 0
	case 1:
		dy = 0
	case 2:
		ax, ay = 0, 0
	}
	grain := math.Ldexp(1, r.IntN(150)-100)
	l := make([]api.Point, 3+r.IntN(8))
	for i := range l {
		k := r.IntN(1<<21) - 1<<20
		if l[i] = at(float64(ax+k*dx)*grain, float64(ay+k*dy)*grain); i > 0 && r.IntN(3) == 0 {
			l[i] = l[r.IntN(i)]
		}
	}
	return l
}

// byFirstTwo: whether all lie on the line of the first two unlike points.
func byFirstTwo(l []api.Point) bool {
	unlike := admit.Unlike(l)
	if len(unlike) < 2 {
		return true
	}
	for _, p := range l {
		if orient.Sign(l[unlike[0]], l[unlike[1]], p) != 0 {
			return false
		}
	}
	return true
}

func flatAsked(t *testing.T, l []api.Point, want bool) {
	t.Helper()
	if admit.Flat(l) != want || byFirstTwo(l) != want {
		t.Fatalf("%x: Flat %v, by the first two unlike ones %v, want %v", l, admit.Flat(l), byFirstTwo(l), want)
	}
	listAsked(t, l)
}

// P7.5: on a line, and with points left out.
func TestFlatStaysFlat(t *testing.T) {
	r := rand.New(rand.NewPCG(7, 6))
	for range 1500 {
		l := onOneLine(r)
		for len(l) > 0 {
			flatAsked(t, l, true)
			i := r.IntN(len(l))
			l = slices.Delete(l, i, i+1)
		}
		flatAsked(t, l, true)
	}
}

// nextTo is a point some floats away, mostly one or two.
func nextTo(r *rand.Rand, p api.Point) api.Point {
	coordinate := &p.X
	if r.IntN(2) == 0 {
		coordinate = &p.Y
	}
	toward := math.Copysign(0x1p100, float64(r.IntN(2))-0.5)
	for range 1 + r.IntN(2) {
		if next := stepped(math.Nextafter(*coordinate, toward)); next != *coordinate {
			*coordinate = next
			continue
		}
		*coordinate += math.Copysign(0x1p-100, toward)
	}
	return p
}

// P7.5: one point of a flat list moved off the line, by a few floats, or far.
func TestNearlyFlat(t *testing.T) {
	r := rand.New(rand.NewPCG(7, 7))
	off := 0
	for range 1500 {
		l := onOneLine(r)
		for i, p := range l {
			l[i] = nextTo(r, p)
			want := modelOf(l).flat
			flatAsked(t, l, want)
			if !want {
				off++
			}
			l[i] = at(p.X+0x1p60, p.Y-0x1p61)
			flatAsked(t, l, modelOf(l).flat)
			l[i] = p
		}
	}
	if off < 1000 {
		t.Error("too few of them are not flat:", off)
	}
}

// P7.5: of a line's points one is off it, at each place; ahead of it alike ones.
func TestOnePointOff(t *testing.T) {
	line := []api.Point{at(1, 1), at(1, 1), at(3, 2), at(-5, -2), at(1, 1), at(7, 4)}
	for _, off := range []api.Point{at(0, 0), at(3, math.Nextafter(2, 3)), at(-5, -2+0x1p-51), at(0x1p100, 0x1p99)} {
		flatAsked(t, line, true)
		for i := range line {
			l := slices.Clone(line)
			l[i] = off
			flatAsked(t, l, false)
			flatAsked(t, slices.Insert(slices.Clone(line), i, off), false)
		}
		flatAsked(t, append(slices.Clone(line), off), false)
	}
	steep := []api.Point{at(-0x1p100, -0x1p100), at(0x1p100, 0x1p100), at(0, 0)}
	flatAsked(t, steep, true)
	for i := range steep {
		for _, off := range []float64{0x1p-100, -0x1p-100} {
			l := slices.Insert(slices.Clone(steep), i, at(0, off))
			flatAsked(t, l, false)
		}
	}
}
