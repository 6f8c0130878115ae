package gauge_test

import (
	"math"
	"math/rand/v2"
	"testing"

	"trivet/api"
	"trivet/gauge"
)

// wrongFloats may not be coordinates, each for a reason of its own.
func wrongFloats() []float64 {
	over := math.Nextafter(0x1p100, math.Inf(1))
	return []float64{
		math.NaN(), math.Inf(1), math.Inf(-1),
		over, -over, 0x1p101, -0x1p101, math.MaxFloat64, -math.MaxFloat64,
		0x1p-101, -0x1p-101, 0x1.8p-100, 0x1.0000000000001p-100, 0x1.fffffffffffffp-101,
		0x1.0000000000001p-49, 0x1p-1022, math.SmallestNonzeroFloat64, -math.SmallestNonzeroFloat64,
	}
}

// edgeFloats are coordinates at the ends of what may be.
func edgeFloats() []float64 {
	list := []float64{0, minusZero()}
	for _, x := range []float64{0x1p-100, 0x1.8p-99, 0x1.0000000000001p-48, 1, 0x1.fffffffffffffp99, 0x1p100} {
		list = append(list, x, -x)
	}
	return list
}

func TestExamples(t *testing.T) {
	a, b, c := at(0, 0), at(4, 0), at(0, 2)
	if n := gauge.Cmp(a, b, b, c); n != -1 {
		t.Error("Cmp:", n)
	}
	for p, want := range map[api.Point]int{at(1, 1): -1, at(2, 2): 0, at(5, 1): 1} {
		if n := gauge.Dot(a, b, p); n != want {
			t.Errorf("Dot at %v: %d", p, n)
		}
	}
	for most, want := range map[float64]int{4: 0, 3.5: 1, 4.5: -1} {
		if n := gauge.Area(a, b, c, most); n != want {
			t.Errorf("Area and %v: %d", most, n)
		}
	}
	if gauge.Sharp(a, b, c, 0) || gauge.Sharp(a, b, c, -1) || !gauge.Sharp(b, a, c, 0.75) || gauge.Sharp(b, a, c, 0.8125) {
		t.Error("Sharp: no at a, 4/5 at b")
	}
	if p, ok := gauge.Center(a, b, c); !ok || !same(p, at(2, 1)) {
		t.Error("Center:", p, ok)
	}
	if p, ok := gauge.Point(a, b, 0.25); !ok || !same(p, at(1, 0)) {
		t.Error("Point:", p, ok)
	}
}

// All that points of a small grid can be to one another: alike, on a line, as
// far apart, at right angles.
func TestSmallGrid(t *testing.T) {
	var points []api.Point
	for x := range 3 {
		for y := range 4 {
			points = append(points, at(float64(x), float64(y)))
		}
	}
	for i, a := range points {
		for j, b := range points[:i+1] {
			for k, c := range points[:j+1] {
				threeAsked(t, a, b, c)
				for _, d := range points[:k+1] {
					cmpAsked(t, a, b, c, d)
				}
			}
		}
	}
}

func TestDrawnPoints(t *testing.T) {
	r := rand.New(rand.NewPCG(6, 1))
	for range 1000 {
		draw := drawer(r)
		a, b, c, d := draw(), draw(), draw(), draw()
		cmpAsked(t, a, b, c, d)
		threeAsked(t, a, b, c)
		pointAsked(t, a, b, r.Float64())
	}
}

func TestEdgeFloats(t *testing.T) {
	r := rand.New(rand.NewPCG(6, 2))
	list := edgeFloats()
	draw := func() api.Point { return at(list[r.IntN(len(list))], list[r.IntN(len(list))]) }
	for range 1000 {
		a, b, c, d := draw(), draw(), draw(), draw()
		cmpAsked(t, a, b, c, d)
		threeAsked(t, a, b, c)
		pointAsked(t, a, b, r.Float64())
		pointAsked(t, a, b, 0.5)
	}
}

// bothOf hands on points of a few bits, so that what is made of them is not
// rounded, moved and sized at random.
func bothOf(r *rand.Rand) (place, way func() api.Point) {
	size := math.Ldexp(1, r.IntN(150)-90)
	few := func(bits int) float64 { return size * float64(r.IntN(2<<bits)-1<<bits) }
	place = func() api.Point { return at(few(30), few(30)) }
	way = func() api.Point { return at(few(20), few(20)) }
	return place, way
}

// moved is p and n ways more.
func moved(p, way api.Point, n float64) api.Point { return at(p.X+n*way.X, p.Y+n*way.Y) }

// Lengths that are just alike: a way that is turned, or mirrored; and nearly so.
func TestLengthsNearlyAlike(t *testing.T) {
	r := rand.New(rand.NewPCG(6, 3))
	for range 1000 {
		place, way := bothOf(r)
		a, c, w := place(), place(), way()
		b := moved(a, w, 1)
		for _, turned := range []api.Point{at(-w.Y, w.X), at(w.Y, w.X), at(-w.X, w.Y), at(-w.X, -w.Y)} {
			d := moved(c, turned, 1)
			if n := gauge.Cmp(a, b, c, d); n != 0 {
				t.Fatalf("Cmp(%x, %x, %x, %x): %d", a, b, c, d, n)
			}
			cmpAsked(t, a, b, c, nudged(r, d))
		}
		if n := gauge.Cmp(a, b, c, moved(c, at(0, 0), 1)); w != at(0, 0) && n != 1 {
			t.Fatalf("Cmp of %x, %x and no length: %d", a, b, n)
		}
	}
	// The lengths differ by far less than floats can tell.
	far, step := at(0x1p100, 0x1p-100), 0x1p-100
	for _, x := range []struct {
		d    api.Point
		want int
	}{{at(0x1p100, 0), 1}, {at(0x1p100, -step), 0}, {at(0x1p100, 2*step), -1}, {at(step, -0x1p100), 0}} {
		if n := gauge.Cmp(at(0, 0), far, at(0, 0), x.d); n != x.want {
			t.Errorf("Cmp with %x: %d", x.d, n)
		}
	}
}

// Angles that are right ones, and nearly so.
func TestAnglesNearlyRight(t *testing.T) {
	r := rand.New(rand.NewPCG(6, 4))
	for range 1000 {
		place, way := bothOf(r)
		p, w := place(), way()
		a, b := moved(p, w, 1), moved(p, at(-w.Y, w.X), float64(r.IntN(1025)-512))
		if n := gauge.Dot(a, b, p); n != 0 || gauge.Sharp(p, a, b, -1) || gauge.Sharp(p, a, b, 0) {
			t.Fatalf("Dot(%x, %x, %x): %d", a, b, p, n)
		}
		for range 4 {
			q := nudged(r, b)
			dotAsked(t, a, q, p)
			dotAsked(t, q, a, p)
			sharpAsked(t, p, a, q)
			sharpAsked(t, p, q, a)
		}
	}
	for x, want := range map[float64]int{0x1p-100: 1, 0: 0, -0x1p-100: -1} {
		if n := gauge.Dot(at(0x1p100, 0), at(x, 0x1p100), at(0, 0)); n != want {
			t.Errorf("Dot with %x: %d", x, n)
		}
		if yes := gauge.Sharp(at(0, 0), at(0x1p100, 0), at(x, 0x1p100), 0); yes != (want > 0) {
			t.Errorf("Sharp with %x: %v", x, yes)
		}
	}
}

// No other cosines, squared, of points that may be are floats than 1/2 and 1
// (and 0): so these are the ones that are just g.
func TestCosinesNearlyG(t *testing.T) {
	r := rand.New(rand.NewPCG(6, 5))
	for range 1000 {
		place, way := bothOf(r)
		a, w := place(), way()
		if w == at(0, 0) {
			continue
		}
		b, n := moved(a, w, 1), float64(1+r.IntN(512))
		c, d := moved(a, at(w.X-w.Y, w.X+w.Y), n), moved(a, w, n)
		half, one := gauge.Sharp(a, b, c, 0.5), gauge.Sharp(a, b, d, 1)
		if half || one || !gauge.Sharp(a, b, c, math.Nextafter(0.5, 0)) || !gauge.Sharp(a, b, d, math.Nextafter(1, 0)) {
			t.Fatalf("Sharp(%x, %x) of %x and 1/2: %v; of %x and 1: %v", a, b, c, half, d, one)
		}
		for range 4 {
			sharpAsked(t, a, b, nudged(r, c))
			sharpAsked(t, a, nudged(r, d), b)
		}
	}
	// A cosine that is above 1/2, or below it, or below 1, by less than floats
	// can tell.
	a, b, step := at(0, 0), at(0x1p99, 0), 0x1p-100
	if !gauge.Sharp(a, b, at(1, 1-0x1p-53), 0.5) || gauge.Sharp(a, b, at(1-0x1p-53, 1), 0.5) {
		t.Error("Sharp next to 1/2")
	}
	if gauge.Sharp(a, b, at(0x1p99, step), 1) || !gauge.Sharp(a, b, at(0x1p99, step), math.Nextafter(1, 0)) {
		t.Error("Sharp next to 1")
	}
}

// Bounds by which all angles below a right one are sharp, or none is.
func TestSharpByAnyBound(t *testing.T) {
	r := rand.New(rand.NewPCG(6, 6))
	for range 500 {
		draw := drawer(r)
		a, b, c := draw(), draw(), draw()
		below := modelDot(b, c, a) > 0
		for _, g := range []float64{0, minusZero(), -math.SmallestNonzeroFloat64, -1, -0x1p700, -math.MaxFloat64} {
			if gauge.Sharp(a, b, c, g) != below {
				t.Fatalf("Sharp(%x, %x, %x, %x): %v", a, b, c, g, !below)
			}
		}
		for _, g := range []float64{1, math.Nextafter(1, 2), 0x1p700, math.MaxFloat64} {
			if gauge.Sharp(a, b, c, g) {
				t.Fatalf("Sharp(%x, %x, %x, %x)", a, b, c, g)
			}
		}
	}
	// The least cosine, squared, that is not 0 is far above the least float.
	if !gauge.Sharp(at(0, 0), at(0x1p100, 0), at(0x1p-100, 0x1p100), math.SmallestNonzeroFloat64) {
		t.Error("Sharp by the least float")
	}
}

// Areas that are just most, and nearly so.
func TestAreasNearlyMost(t *testing.T) {
	r := rand.New(rand.NewPCG(6, 7))
	for range 1000 {
		place, way := bothOf(r)
		a, w := place(), at(way().X, 0)
		b, c := moved(a, w, 1), moved(a, at(w.Y, w.X), float64(r.IntN(1025)-512))
		c.X += way().X
		most := rounded(exactArea(a, b, c))
		if n := gauge.Area(a, b, c, most); n != 0 {
			t.Fatalf("Area(%x, %x, %x, %x): %d", a, b, c, most, n)
		}
		for range 4 {
			areaAsked(t, a, b, nudged(r, c), most)
		}
	}
	// The area is above most, or below it, by one step's worth.
	a, b := at(0, 0), at(0x1p100, 0)
	for c, want := range map[api.Point]int{at(0x1p-100, 0x1p100): 0, at(0, math.Nextafter(0x1p100, 0)): -1} {
		if n := gauge.Area(a, b, c, 0x1p199); n != want {
			t.Errorf("Area with %x: %d", c, n)
		}
	}
	tilted := at(0x1p100, 0x1p-100)
	for c, want := range map[api.Point]int{at(0, 0x1p100): 0, at(-1, 0x1p100): 1, at(1, 0x1p100): -1} {
		if n := gauge.Area(a, tilted, c, 0x1p199); n != want {
			t.Errorf("Area with %x: %d", c, n)
		}
	}
}

func TestAreaByAnyBound(t *testing.T) {
	a, b, c := at(0, 0), at(0x1p-100, 0), at(0, 0x1p-100)
	big, most := at(0x1p100, -0x1p100), math.MaxFloat64
	for _, x := range []struct {
		c    api.Point
		most float64
		want int
	}{
		{c, 0x1p-201, 0}, {c, math.Nextafter(0x1p-201, 0), 1}, {c, math.Nextafter(0x1p-201, 1), -1},
		{c, 0, 1}, {c, minusZero(), 1}, {c, math.SmallestNonzeroFloat64, 1}, {c, -1, 1}, {c, -most, 1}, {c, most, -1},
		{b, 0, 0}, {b, minusZero(), 0}, {b, math.SmallestNonzeroFloat64, -1}, {b, -math.SmallestNonzeroFloat64, 1}, {b, -most, 1}, {b, most, -1},
		{big, most, -1}, {big, -most, 1}, {big, 0.5, 0}, {big, math.Nextafter(0.5, 0), 1}, {big, math.Nextafter(0.5, 1), -1},
	} {
		if n := gauge.Area(a, b, x.c, x.most); n != x.want {
			t.Errorf("Area with %x, %x: %d", x.c, x.most, n)
		}
		areaAsked(t, a, b, x.c, x.most)
	}
}

// Three points on a line, nearly on a line, and alike.
func TestOnALine(t *testing.T) {
	r := rand.New(rand.NewPCG(6, 8))
	for range 300 {
		place, way := bothOf(r)
		a, w := place(), way()
		b, c := moved(a, w, float64(r.IntN(1025)-512)), moved(a, w, float64(r.IntN(1025)-512))
		if p, ok := gauge.Center(a, b, c); ok || !same(p, at(0, 0)) || gauge.Area(a, b, c, 0) != 0 {
			t.Fatalf("%x, %x, %x on a line: Center %x, %v, Area %d", a, b, c, p, ok, gauge.Area(a, b, c, 0))
		}
		threeAsked(t, a, b, c)
		threeAsked(t, a, b, nudged(r, c))
		threeAsked(t, a, b, b)
		threeAsked(t, a, a, a)
		cmpAsked(t, a, b, c, nudged(r, c))
		cmpAsked(t, a, a, b, b)
		cmpAsked(t, a, a, a, b)
	}
}

func TestNoughts(t *testing.T) {
	noughts := []float64{0, minusZero()}
	for _, x := range noughts {
		for _, y := range noughts {
			for _, z := range noughts {
				threeAsked(t, at(x, y), at(y, z), at(z, x))
				threeAsked(t, at(x, 1), at(y, -1), at(1, z))
				threeAsked(t, at(-2, x), at(2, y), at(z, 1))
				cmpAsked(t, at(x, y), at(y, z), at(z, x), at(z, z))
				cmpAsked(t, at(x, 1), at(1, y), at(z, -1), at(-1, z))
				for _, part := range []float64{0, minusZero(), math.SmallestNonzeroFloat64, 0.25, 0.5, 1} {
					pointAsked(t, at(x, y), at(y, z), part)
					pointAsked(t, at(x, 1), at(-0.25, y), part)
					pointAsked(t, at(-1, y), at(z, -0.25), part)
				}
			}
		}
	}
}

// wrongPoints are points with one coordinate, or both, that may not be.
func wrongPoints(p api.Point) []api.Point {
	var list []api.Point
	for _, x := range wrongFloats() {
		list = append(list, at(x, p.Y), at(p.X, x), at(x, x))
	}
	return list
}

// refused asks that nothing is told of points of which the one at the place may
// not be.
func refused(t *testing.T, l [4]api.Point, place int) {
	t.Helper()
	if n := gauge.Cmp(l[0], l[1], l[2], l[3]); n != 0 {
		t.Fatalf("Cmp(%x): %d", l, n)
	}
	if place == 3 {
		return
	}
	if n := gauge.Dot(l[0], l[1], l[2]); n != 0 {
		t.Fatalf("Dot(%x): %d", l[:3], n)
	}
	for _, bound := range bounds() {
		if n := gauge.Area(l[0], l[1], l[2], bound); n != 0 {
			t.Fatalf("Area(%x, %x): %d", l[:3], bound, n)
		}
		if gauge.Sharp(l[0], l[1], l[2], bound) {
			t.Fatalf("Sharp(%x, %x)", l[:3], bound)
		}
	}
	if p, ok := gauge.Center(l[0], l[1], l[2]); ok || !same(p, at(0, 0)) {
		t.Fatalf("Center(%x): %x, %v", l[:3], p, ok)
	}
	if place == 2 {
		return
	}
	for _, part := range []float64{0, 0.5, 1} {
		if p, ok := gauge.Point(l[0], l[1], part); ok || !same(p, at(0, 0)) {
			t.Fatalf("Point(%x, %x): %x, %v", l[:2], part, p, ok)
		}
	}
}

func TestWrongPoints(t *testing.T) {
	rows := [][4]api.Point{
		{at(0, 0), at(4, 0), at(1, 2), at(7, 7)},
		{at(1, 1), at(1, 1), at(1, 1), at(1, 1)},
		{at(-0x1p100, 0), at(0x1p100, 1), at(0, 0x1p100), at(0, 1)},
		{at(3, -1), at(5, 2), at(4, 4), at(-0x1p-100, 0x1p-100)},
	}
	for _, row := range rows {
		for place := range row {
			for _, wrong := range wrongPoints(row[place]) {
				l := row
				l[place] = wrong
				refused(t, l, place)
			}
		}
	}
}

func TestWrongNumbers(t *testing.T) {
	a, b, c := at(0, 0), at(4, 0), at(1, 2)
	for _, x := range []float64{math.NaN(), math.Inf(1), math.Inf(-1)} {
		if n := gauge.Area(a, b, c, x); n != 0 {
			t.Errorf("Area and %v: %d", x, n)
		}
		if gauge.Sharp(a, b, c, x) || gauge.Sharp(b, a, c, x) {
			t.Errorf("Sharp by %v", x)
		}
		if p, ok := gauge.Point(a, b, x); ok || !same(p, at(0, 0)) {
			t.Errorf("Point and %v: %v, %v", x, p, ok)
		}
	}
}

// Next to the ends of what may be: the last that may be is answered, the first
// that may not be is not.
func TestNextBeyond(t *testing.T) {
	over, under := math.Nextafter(0x1p100, math.Inf(1)), 0x1.8p-100
	o, a := at(0, 0), at(1, 1)
	for _, x := range []struct {
		p   api.Point
		may int
	}{{at(0x1p100, 0), 1}, {at(over, 0), 0}, {at(0, 0x1p100), 1}, {at(0, over), 0}, {at(1, 0x1p-100), 1}, {at(1, 0x1p-101), 0}, {at(under, 1), 0}, {at(2*under, 1), 1}} {
		may := x.may == 1
		centerAsked(t, o, at(-2, -4), x.p)
		if p, ok := gauge.Point(x.p, x.p, 0.5); ok != may || may && !same(p, x.p) {
			t.Errorf("Point of %x: %x, %v", x.p, p, ok)
		}
		if gauge.Cmp(o, x.p, o, at(0.5, 0)) != x.may || gauge.Dot(a, x.p, o) != x.may || gauge.Area(o, a, x.p, 0x1p-2) != x.may || gauge.Sharp(o, a, x.p, 0) != may {
			t.Errorf("%x: %d, %d, %d, %v", x.p, gauge.Cmp(o, x.p, o, at(0.5, 0)), gauge.Dot(a, x.p, o), gauge.Area(o, a, x.p, 0x1p-2), gauge.Sharp(o, a, x.p, 0))
		}
	}
}
