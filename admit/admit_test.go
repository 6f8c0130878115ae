package admit_test

import (
	"math"
	"math/rand/v2"
	"slices"
	"testing"

	"trivet/admit"
	"trivet/api"
)

func TestExamples(t *testing.T) {
	l := []api.Point{at(1, 0), at(0, 0), at(1, 0), at(0, -1)}
	want := answers{order: []int{3, 1, 0, 2}, twins: []int{0, 1, 0, 3}, unlike: []int{3, 1, 0}}
	if got := told(l); !got.same(want) {
		t.Errorf("%+v, want %+v", got, want)
	}
	if !admit.Flat([]api.Point{at(0, 0), at(1, 1), at(2, 2)}) {
		t.Error("three points of a diagonal are flat")
	}
	if i, e := admit.All([]api.Point{at(0, 0), at(0x1p101, 0)}); i != 1 || e != api.ErrRange {
		t.Error("All:", i, e)
	}
	if !admit.May(at(0x1p-100, 0)) || admit.May(at(0x1p-101, 0)) {
		t.Error("May:", admit.May(at(0x1p-100, 0)), admit.May(at(0x1p-101, 0)))
	}
}

// mayAsked puts x at each place of a point beside a coordinate that may be, and
// beside itself.
func mayAsked(t *testing.T, x float64, want bool) {
	t.Helper()
	for _, p := range []api.Point{at(x, 0), at(0, x), at(x, -3), at(0x1p100, x), at(x, x)} {
		if admit.May(p) != want || modelMay(p) != want {
			t.Fatalf("%x: May %v, the model %v, want %v", p, admit.May(p), modelMay(p), want)
		}
		place, err := admit.All([]api.Point{p})
		if wantErr := wrongUnless(want); place != 0 || err != wantErr {
			t.Fatalf("All of %x: %d, %v", p, place, err)
		}
	}
}

func wrongUnless(may bool) api.Errno {
	if may {
		return api.OK
	}
	return api.ErrRange
}

// P7.1, at the ends of what may be, and at the floats next beyond them.
func TestWhichPointsMayBe(t *testing.T) {
	for _, x := range edgeFloats() {
		mayAsked(t, x, true)
	}
	for _, x := range wrongFloats() {
		mayAsked(t, x, false)
	}
	for k := range 201 {
		x := math.Ldexp(1, k-100)
		mayAsked(t, x, true)
		mayAsked(t, -x, true)
	}
}

// P7.1: any floats, and floats of few bits around the step and around the end.
func TestDrawnPointsMayBe(t *testing.T) {
	r := rand.New(rand.NewPCG(7, 1))
	seen := map[bool]int{}
	for range 20000 {
		x := math.Float64frombits(r.Uint64())
		if r.IntN(2) == 0 {
			bits := 1 + r.IntN(53)
			x = math.Ldexp(float64(r.Uint64N(1<<bits)), r.IntN(220)-110-bits)
		}
		_, want := steps(x)
		seen[want]++
		mayAsked(t, x, want)
	}
	if seen[true] < 1000 || seen[false] < 1000 {
		t.Error("too few of a kind:", seen)
	}
}

func cmpAsked(t *testing.T, p, q api.Point) {
	t.Helper()
	want := modelCmp(p, q)
	if c, back := admit.Cmp(p, q), admit.Cmp(q, p); c != want || back != -want {
		t.Fatalf("Cmp(%x, %x): %d, and turned about %d, want %d", p, q, c, back, want)
	}
}

// P7.1: X goes ahead of Y; -0 is 0.
func TestCmp(t *testing.T) {
	for _, x := range []struct {
		p, q api.Point
		want int
	}{
		{at(0, 5), at(1, -5), -1}, {at(1, 2), at(1, 3), -1}, {at(1, 3), at(1, 3), 0},
		{at(-2, 0), at(-1, 0), -1}, {at(0, -2), at(0, -1), -1},
		{at(0, 0), at(minusZero(), minusZero()), 0}, {at(minusZero(), 1), at(0, 2), -1},
		{at(0, minusZero()), at(minusZero(), 0), 0}, {at(0, 1), at(minusZero(), 1), 0},
		{at(-0x1p100, 0x1p100), at(0x1p100, -0x1p100), -1},
		{at(0, 0), at(0x1p-100, -1), -1}, {at(1, 0x1p-100), at(1, 0x1p-99), -1},
		{at(1, 0), at(math.Nextafter(1, 2), 0), -1}, {at(1, math.Nextafter(1, 0)), at(1, 1), -1},
	} {
		if c, back := admit.Cmp(x.p, x.q), admit.Cmp(x.q, x.p); c != x.want || back != -x.want {
			t.Errorf("Cmp(%x, %x): %d, and turned about %d, want %d", x.p, x.q, c, back, x.want)
		}
	}
}

func TestDrawnCmp(t *testing.T) {
	r := rand.New(rand.NewPCG(7, 2))
	for range 20000 {
		p, q := anyPoint(r, -100, 99), anyPoint(r, -100, 99)
		near := at(stepped(math.Nextafter(p.X, q.X)), stepped(math.Nextafter(p.Y, q.Y)))
		for _, other := range []api.Point{q, p, near, at(p.X, q.Y), at(q.X, p.Y), at(p.X, near.Y), at(near.X, q.Y), at(-p.X, p.Y)} {
			cmpAsked(t, p, other)
		}
	}
}

// All points of edges, and of wrong floats at each place, against each other.
func TestCmpOfEdges(t *testing.T) {
	var points []api.Point
	for _, x := range edgeFloats() {
		for _, y := range []float64{0, -1, 0x1p100, x} {
			points = append(points, at(x, y), at(y, x))
		}
	}
	for _, x := range wrongFloats() {
		points = append(points, at(x, 0), at(1, x), at(x, x))
	}
	for _, p := range points {
		for _, q := range points {
			cmpAsked(t, p, q)
		}
	}
	for _, x := range wrongFloats() {
		for _, p := range []api.Point{at(x, 0), at(0, x), at(x, x)} {
			if c, back, self := admit.Cmp(p, at(5, 5)), admit.Cmp(at(5, 5), p), admit.Cmp(p, p); c != 0 || back != 0 || self != 0 {
				t.Errorf("Cmp with %x: %d, %d, with itself %d", p, c, back, self)
			}
		}
	}
}

// P7.1 and P7.2, where the document names an edge.
func TestNamedLists(t *testing.T) {
	nought := minusZero()
	for name, x := range map[string]struct {
		l    []api.Point
		want answers
	}{
		"none":      {nil, answers{flat: true}},
		"empty":     {[]api.Point{}, answers{flat: true}},
		"one":       {[]api.Point{at(3, 4)}, answers{order: []int{0}, twins: []int{0}, unlike: []int{0}, flat: true}},
		"two":       {[]api.Point{at(3, 4), at(1, 9)}, answers{order: []int{1, 0}, twins: []int{0, 1}, unlike: []int{1, 0}, flat: true}},
		"two alike": {[]api.Point{at(3, 4), at(3, 4)}, answers{order: []int{0, 1}, twins: []int{0, 0}, unlike: []int{0}, flat: true}},
		"all alike": {[]api.Point{at(3, 4), at(3, 4), at(3, 4)}, answers{order: []int{0, 1, 2}, twins: []int{0, 0, 0}, unlike: []int{0}, flat: true}},
		"of one X":  {[]api.Point{at(2, 1), at(2, -1), at(2, 0), at(2, -1)}, answers{order: []int{1, 3, 2, 0}, twins: []int{0, 1, 2, 1}, unlike: []int{1, 2, 0}, flat: true}},
		"of one Y":  {[]api.Point{at(1, 2), at(-1, 2), at(0, 2)}, answers{order: []int{1, 2, 0}, twins: []int{0, 1, 2}, unlike: []int{1, 2, 0}, flat: true}},
		"of -0": {[]api.Point{at(nought, 0), at(0, nought), at(0, 0), at(nought, nought)},
			answers{order: []int{0, 1, 2, 3}, twins: []int{0, 0, 0, 0}, unlike: []int{0}, flat: true}},
		"of -0 and more": {[]api.Point{at(1, 1), at(0, nought), at(0, 1), at(nought, 0), at(nought, 1)},
			answers{order: []int{1, 3, 2, 4, 0}, twins: []int{0, 1, 2, 1, 2}, unlike: []int{1, 2, 0}}},
		"first two alike": {[]api.Point{at(1, 1), at(1, 1), at(2, 2), at(3, 3), at(3, 4)},
			answers{order: []int{0, 1, 2, 3, 4}, twins: []int{0, 0, 2, 3, 4}, unlike: []int{0, 2, 3, 4}}},
		"at the ends": {[]api.Point{at(0x1p100, 0x1p100), at(-0x1p100, -0x1p100), at(0x1p-100, 0x1p-100), at(0, 0)},
			answers{order: []int{1, 3, 2, 0}, twins: []int{0, 1, 2, 3}, unlike: []int{1, 3, 2, 0}, flat: true}},
		"at the ends, not flat": {[]api.Point{at(0x1p100, 0x1p100), at(-0x1p100, -0x1p100), at(0x1p-100, 0)},
			answers{order: []int{1, 2, 0}, twins: []int{0, 1, 2}, unlike: []int{1, 2, 0}}},
	} {
		if got := told(x.l); !got.same(x.want) {
			t.Errorf("%s: %+v, want %+v", name, got, x.want)
		}
		listAsked(t, x.l)
	}
}

// P7.2: lists with many alike points, and with none.
func TestDrawnLists(t *testing.T) {
	r := rand.New(rand.NewPCG(7, 3))
	for range 3000 {
		listAsked(t, drawnList(r))
	}
}

// All lists of three and of four points of a small grid.
func TestSmallGrid(t *testing.T) {
	var points []api.Point
	for x := range 3 {
		for y := range 3 {
			points = append(points, at(float64(x), float64(y)))
		}
	}
	for _, a := range points {
		for _, b := range points {
			for _, c := range points {
				listAsked(t, []api.Point{a, b, c})
			}
			for _, c := range points[3:] {
				listAsked(t, []api.Point{a, b, c, points[4], a})
			}
		}
	}
}

// wrongAsked: nothing is told of the list but which point is the first wrong one.
func wrongAsked(t *testing.T, l []api.Point, want int) {
	t.Helper()
	if got := told(l); !got.same(answers{place: want, err: api.ErrRange}) {
		t.Fatalf("of %x: %+v, want the place %d", l, got, want)
	}
	listAsked(t, l)
}

// Points that may not be, at each place of a list; also of one whose other
// points are flat, or alike, or too few to be anything else.
func TestWrongPoints(t *testing.T) {
	lists := [][]api.Point{
		{at(0, 0)}, {at(1, 1), at(1, 1)}, {at(0, 0), at(1, 1), at(2, 2)},
		{at(1, 0), at(0, 0), at(1, 0), at(0, -1), at(5, 7)},
	}
	for _, x := range wrongFloats() {
		for _, p := range []api.Point{at(x, 0), at(1, x), at(x, x)} {
			for _, l := range lists {
				for i := range l {
					wrongAsked(t, slices.Concat(l[:i], []api.Point{p}, l[i+1:]), i)
				}
				for i := range len(l) + 1 {
					wrongAsked(t, slices.Insert(slices.Clone(l), i, p), i)
				}
			}
			wrongAsked(t, []api.Point{at(0, 0), p, at(math.Inf(1), 0), p}, 1)
			wrongAsked(t, []api.Point{p, p, p}, 0)
		}
	}
}
