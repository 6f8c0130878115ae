package circle_test

import (
	"math"
	"math/rand/v2"
	"testing"

	"trivet/api"
	"trivet/circle"
)

func minusZero() float64 { return math.Copysign(0, -1) }

// wrongFloats may not be coordinates, each for a reason of its own.
func wrongFloats() []float64 {
	over := math.Nextafter(0x1p100, math.Inf(1))
	return []float64{
		math.NaN(), math.Inf(1), math.Inf(-1),
		over, -over, 0x1p101, -0x1p101, math.MaxFloat64, -math.MaxFloat64,
		0x1p-101, -0x1p-101, 0x1.8p-100, 0x1.0000000000001p-100, 0x1.fffffffffffffp-101,
		0x1.0000000000001p-49, 0x1p-1022, math.SmallestNonzeroFloat64, -math.SmallestNonzeroFloat64,
	}
}

// edgeFloats are coordinates at the ends of what may be.
func edgeFloats() []float64 {
	list := []float64{0, minusZero()}
	for _, x := range []float64{0x1p-100, 0x1.8p-99, 0x1.0000000000001p-48, 1, 0x1.fffffffffffffp99, 0x1p100} {
		list = append(list, x, -x)
	}
	return list
}

func TestExamples(t *testing.T) {
	a, b, c := at(0, 0), at(2, 0), at(0, 2)
	for _, x := range []struct {
		d    api.Point
		want int
	}{{at(1, 1), 1}, {at(2, 2), 0}, {at(3, 3), -1}, {at(2+0x1p-50, 2), -1}, {at(2-0x1p-50, 2), 1}} {
		if s := circle.Sign(a, b, c, x.d); s != x.want {
			t.Errorf("Sign with %v: %d", x.d, s)
		}
		asked(t, a, b, c, x.d)
	}
	if s := circle.Sign(b, a, c, at(1, 1)); s != -1 {
		t.Error("Sign turned about:", s)
	}
	if !circle.Within(a, b, c, at(1, 1)) || !circle.Within(b, a, c, at(1, 1)) {
		t.Error("(1, 1) lies within")
	}
}

// All that four points of a small grid can be to one another: alike, on a line,
// on a circle, within and outside.
func TestSmallGrid(t *testing.T) {
	var points []api.Point
	for x := range 3 {
		for y := range 4 {
			points = append(points, at(float64(x), float64(y)))
		}
	}
	for i, a := range points {
		for j, b := range points[:i+1] {
			for k, c := range points[:j+1] {
				for _, d := range points[:k+1] {
					asked(t, a, b, c, d)
				}
			}
		}
	}
}

func TestOnOneCircle(t *testing.T) {
	r := rand.New(rand.NewPCG(5, 1))
	points := ring()
	if len(points) != 36 {
		t.Fatal("the ring's points:", len(points))
	}
	draw := func(size, x, y float64) api.Point {
		p := points[r.IntN(len(points))]
		return at(x+size*p.X, y+size*p.Y)
	}
	for range 500 {
		size := math.Ldexp(1, r.IntN(193)-100)
		x, y := size*float64(r.IntN(1<<20)), -size*float64(r.IntN(1<<20))
		if math.Abs(x) > 0x1p99 || math.Abs(y) > 0x1p99 {
			x, y = 0, 0
		}
		a, b, c, d := draw(size, x, y), draw(size, x, y), draw(size, x, y), draw(size, x, y)
		if s := circle.Sign(a, b, c, d); s != 0 {
			t.Fatalf("Sign of %x, %x, %x, %x on a circle: %d", a, b, c, d, s)
		}
		asked(t, a, b, c, d)
		for _, far := range []float64{0x1p100, -0x1p100} {
			asked(t, a, b, c, at(math.Nextafter(d.X, far), d.Y))
			asked(t, a, b, c, at(d.X, stepped(math.Nextafter(d.Y, far))))
		}
	}
}

// The greatest circle around (0, 0), and the least one.
func TestGreatestAndLeastCircle(t *testing.T) {
	for _, size := range []float64{0x1p100, 0x1p-100} {
		a, b, c := at(size, 0), at(0, size), at(-size, 0)
		asked(t, a, b, c, at(0, -size))
		for _, x := range []float64{0x1p-100, -0x1p-100} {
			asked(t, a, b, c, at(x, -size))
			asked(t, a, b, c, at(x, x))
		}
		asked(t, a, b, c, at(0, math.Nextafter(-0x1p100, 0)))
		asked(t, a, b, c, at(0, math.Nextafter(-0x1p100, math.Inf(-1))))
		asked(t, at(size, size), at(-size, size), at(-size, -size), at(size, -size))
	}
	corner := at(0x1p100, 0x1p100)
	near := math.Nextafter(0x1p100, 0)
	for _, x := range []struct {
		d    api.Point
		want int
	}{{at(0x1p100, -0x1p100), 0}, {at(near, -0x1p100), 1}, {at(0x1p100, -near), 1}, {at(0x1p-100, -0x1p100), 1}} {
		if s := circle.Sign(corner, at(-0x1p100, 0x1p100), at(-0x1p100, -0x1p100), x.d); s != x.want {
			t.Errorf("Sign of three corners and %x: %d", x.d, s)
		}
	}
}

// On a line: all four, or three of them with the last one on either side, next
// to it and far away.
func TestOnALine(t *testing.T) {
	r := rand.New(rand.NewPCG(5, 2))
	for range 300 {
		size := math.Ldexp(1, r.IntN(180)-100)
		whole := func() float64 { return size * float64(r.IntN(201)-100) }
		stepX, stepY, x, y := whole(), whole(), whole(), whole()
		along := func() api.Point {
			n := float64(r.IntN(201) - 100)
			return at(x+n*stepX, y+n*stepY)
		}
		a, b, c, d := along(), along(), along(), along()
		if s := circle.Sign(a, b, c, d); s != 0 || circle.Within(a, b, c, d) {
			t.Fatalf("Sign of %x, %x, %x, %x on a line: %d", a, b, c, d, s)
		}
		asked(t, a, b, c, d)
		asked(t, a, b, c, at(stepped(math.Nextafter(d.X, 0x1p100)), d.Y))
		asked(t, a, b, c, at(d.X, stepped(math.Nextafter(d.Y, -0x1p100))))
		asked(t, a, b, c, at(whole(), whole()))
	}
	left, right := at(1, 0x1p-100), at(1, -0x1p-100)
	a, b, c := at(0, 0), at(2, 0), at(3, 0)
	if circle.Sign(a, b, c, left)*circle.Sign(a, b, c, right) != -1 {
		t.Error("Sign beside a line:", circle.Sign(a, b, c, left), circle.Sign(a, b, c, right))
	}
	if circle.Within(a, b, c, left) || circle.Within(a, b, c, right) || circle.Within(b, a, c, left) || circle.Within(b, a, c, right) {
		t.Error("Within of a line")
	}
}

func TestAlike(t *testing.T) {
	r := rand.New(rand.NewPCG(5, 3))
	for range 300 {
		a, b, c := anyPoint(r, -100, 99), anyPoint(r, -100, 99), anyPoint(r, -100, 99)
		for _, l := range [][4]api.Point{
			{a, a, b, c}, {a, b, a, c}, {a, b, c, a}, {b, a, a, c}, {b, a, c, a}, {b, c, a, a},
			{a, a, b, b}, {a, b, b, a}, {a, a, a, b}, {b, a, a, a}, {a, a, a, a},
		} {
			if s := circle.Sign(l[0], l[1], l[2], l[3]); s != 0 || circle.Within(l[0], l[1], l[2], l[3]) {
				t.Fatalf("Sign of %x: %d", l, s)
			}
			if s, _ := circle.Fast(l[0], l[1], l[2], l[3]); s != 0 {
				t.Fatalf("Fast of %x: %d", l, s)
			}
		}
	}
}

// Floats next to a circle, where what floats tell of the sum is often of the
// wrong sign.
func TestNearACircle(t *testing.T) {
	r := rand.New(rand.NewPCG(5, 4))
	for range 3000 {
		middle := at(r.Float64()-0.5, r.Float64()-0.5)
		size := math.Ldexp(1, r.IntN(120)-50)
		middle.X, middle.Y = size*middle.X, size*middle.Y
		radius := size * math.Ldexp(0.5+r.Float64(), 3-r.IntN(20))
		draw := func() api.Point { return nearCircle(r, middle, radius) }
		asked(t, draw(), draw(), draw(), draw())
	}
}

func TestAnyPoints(t *testing.T) {
	r := rand.New(rand.NewPCG(5, 5))
	for range 2000 {
		low, high := -100, 99
		if r.IntN(2) == 0 {
			low = r.IntN(190) - 100
			high = low + r.IntN(8)
		}
		asked(t, anyPoint(r, low, high), anyPoint(r, low, high), anyPoint(r, low, high), anyPoint(r, low, high))
	}
}

// Coordinates at the ends of what may be, greatest and least ones in one point:
// the exact sum takes some 800 bits.
func TestEdgeFloats(t *testing.T) {
	r := rand.New(rand.NewPCG(5, 6))
	list := edgeFloats()
	draw := func() api.Point { return at(list[r.IntN(len(list))], list[r.IntN(len(list))]) }
	for range 5000 {
		asked(t, draw(), draw(), draw(), draw())
	}
	// The first three points and the greatest last one lie on a circle but for
	// one step.
	a, b, c := at(-0x1p100, 0), at(0, -0x1p100), at(0x1p100, 0)
	for _, d := range []api.Point{at(0, 0x1p100), at(0x1p-100, 0x1p100), at(-0x1p-100, 0x1p100)} {
		want := -1
		if d.X == 0 {
			want = 0
		}
		if s := circle.Sign(a, b, c, d); s != want {
			t.Errorf("Sign with %x: %d", d, s)
		}
	}
}

func TestNoughts(t *testing.T) {
	noughts := []float64{0, minusZero()}
	for _, x := range noughts {
		for _, y := range noughts {
			for _, z := range noughts {
				asked(t, at(x, y), at(y, z), at(z, x), at(x, x))
				asked(t, at(x, 1), at(y, -1), at(z, x), at(1, y))
				asked(t, at(-1, x), at(1, y), at(z, 1), at(x, -1))
				asked(t, at(x, y), at(2, z), at(y, 2), at(1, 1))
				asked(t, at(x, y), at(0x1p-100, z), at(y, 0x1p-100), at(0x1p-100, 0x1p-100))
			}
		}
	}
}

// Whole coordinates up to 1024, of which Fast must know (P5.2), sums of 1 and
// -1 among them; and greater ones, up to those whose products are rounded.
func TestWholeCoordinates(t *testing.T) {
	r := rand.New(rand.NewPCG(5, 7))
	ends := []float64{-1024, -1023, 0, 1, 1023, 1024}
	end := func() float64 { return ends[r.IntN(len(ends))] }
	whole := func(most int) float64 { return float64(r.IntN(2*most+1) - most) }
	for range 2000 {
		asked(t, at(end(), end()), at(end(), end()), at(end(), end()), at(end(), end()))
		asked(t, at(whole(1024), whole(1024)), at(whole(1024), whole(1024)), at(whole(1024), whole(1024)), at(whole(1024), whole(1024)))
		radius := 20 + 1000*r.Float64()
		near := func() api.Point {
			p := nearCircle(r, at(0, 0), radius)
			return at(math.Round(p.X), math.Round(p.Y))
		}
		asked(t, near(), near(), near(), near())
		most := 1 << (11 + r.IntN(10))
		x, y, z, u := whole(most), whole(most), whole(most), whole(most)
		asked(t, at(x, y), at(-y, x), at(-x, -y), at(y, -x+float64(r.IntN(2))))
		asked(t, at(x, y), at(z, y), at(z, u), at(x, u+float64(r.IntN(2))))
	}
	asked(t, at(0, 0), at(1, 0), at(0, 1), at(1, 1))
	asked(t, at(-1024, -1024), at(1024, -1024), at(1024, 1024), at(-1024, 1023))
	asked(t, at(-1024, -1024), at(1024, 1023), at(1023, 1022), at(1022, 1021))
}

// wrongPoints are points with one coordinate, or both, that may not be.
func wrongPoints(p api.Point) []api.Point {
	var list []api.Point
	for _, x := range wrongFloats() {
		list = append(list, at(x, p.Y), at(p.X, x), at(x, x))
	}
	return list
}

func TestWrongPoints(t *testing.T) {
	rows := [][4]api.Point{
		{at(0, 0), at(2, 0), at(0, 2), at(1, 1)},
		{at(-1, -1), at(1, -2), at(1, 1), at(0, 0)},
		{at(0, 0), at(0, 0), at(0, 0), at(0, 0)},
		{at(-0x1p100, 0), at(0x1p100, 0), at(0, 0x1p100), at(0, 1)},
	}
	for _, row := range rows {
		for place := range row {
			for _, wrong := range wrongPoints(row[place]) {
				l := row
				l[place] = wrong
				s := circle.Sign(l[0], l[1], l[2], l[3])
				fast, ok := circle.Fast(l[0], l[1], l[2], l[3])
				if s != 0 || fast != 0 || ok {
					t.Fatalf("%x: Sign %d, Fast %d %v", l, s, fast, ok)
				}
				if circle.Within(l[0], l[1], l[2], l[3]) || circle.Within(l[1], l[0], l[2], l[3]) {
					t.Fatalf("Within of %x", l)
				}
			}
		}
	}
}

// Next to the ends of what may be: the last that may be is answered, the first
// that may not be is not.
func TestNextBeyond(t *testing.T) {
	a, b, c := at(0, 0), at(2, 0), at(0, 2)
	for _, x := range []struct {
		d    api.Point
		want int
	}{
		{at(0x1p100, 0), -1}, {at(math.Nextafter(0x1p100, math.Inf(1)), 0), 0},
		{at(0, -0x1p100), -1}, {at(0, math.Nextafter(-0x1p100, math.Inf(-1))), 0},
		{at(0x1p-100, 1), 1}, {at(0x1p-101, 1), 0}, {at(1, 0x1p-100), 1}, {at(1, 0x1.8p-100), 0},
	} {
		if s := circle.Sign(a, b, c, x.d); s != x.want || circle.Within(a, b, c, x.d) != (x.want > 0) {
			t.Errorf("Sign with %x: %d", x.d, s)
		}
	}
}
