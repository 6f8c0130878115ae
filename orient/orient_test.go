package orient_test

import (
	"math"
	"math/rand/v2"
	"testing"

	"trivet/api"
	"trivet/orient"
)

func minusZero() float64 { return math.Copysign(0, -1) }

// wrongFloats may not be coordinates, each for a reason of its own.
func wrongFloats() []float64 {
	over := math.Nextafter(0x1p100, math.Inf(1))
	return []float64{
		math.NaN(), math.Inf(1), math.Inf(-1),
		over, -over, 0x1p101, -0x1p101, math.MaxFloat64, -math.MaxFloat64,
		0x1p-101, -0x1p-101, 0x1.8p-100, 0x1.0000000000001p-100, 0x1.fffffffffffffp-101,
		0x1.0000000000001p-49, 0x1p-1022, math.SmallestNonzeroFloat64, -math.SmallestNonzeroFloat64,
	}
}

// edgeFloats are coordinates at the ends of what may be.
func edgeFloats() []float64 {
	list := []float64{0, minusZero()}
	for _, x := range []float64{0x1p-100, 0x1.8p-99, 0x1.0000000000001p-48, 1, 0x1.fffffffffffffp99, 0x1p100} {
		list = append(list, x, -x)
	}
	return list
}

func TestExamples(t *testing.T) {
	a, b := at(0, 0), at(2, 0)
	for _, x := range []struct {
		c    api.Point
		want int
	}{{at(1, 1), 1}, {at(1, -0x1p-100), -1}, {at(5, 0), 0}, {at(0x1p101, 0), 0}} {
		if s := orient.Sign(a, b, x.c); s != x.want {
			t.Errorf("Sign with %v: %d", x.c, s)
		}
	}
	if !orient.On(a, b, at(1, 0)) || !orient.On(a, b, a) || orient.On(a, b, at(3, 0)) {
		t.Error("On:", orient.On(a, b, at(1, 0)), orient.On(a, b, a), orient.On(a, b, at(3, 0)))
	}
	if !orient.Cross(a, b, at(1, -1), at(1, 1)) || orient.Cross(a, b, at(1, 0), at(1, 1)) {
		t.Error("Cross:", orient.Cross(a, b, at(1, -1), at(1, 1)), orient.Cross(a, b, at(1, 0), at(1, 1)))
	}
}

// All that four points of a small grid can be to one another: alike, on a line,
// ends that touch, segments that lie upon one another, that share an end.
func TestSmallGrid(t *testing.T) {
	var points []api.Point
	for x := range 3 {
		for y := range 3 {
			points = append(points, at(float64(x), float64(y)))
		}
	}
	for _, a := range points {
		for _, b := range points {
			for _, c := range points {
				threeAsked(t, a, b, c)
				for _, d := range points {
					fourAsked(t, a, b, c, d)
				}
			}
		}
	}
}

func TestEndsOfSegments(t *testing.T) {
	r := rand.New(rand.NewPCG(4, 1))
	for range 500 {
		a, b := anyPoint(r, -100, 99), anyPoint(r, -100, 99)
		if !orient.On(a, b, a) || !orient.On(a, b, b) || !orient.On(a, a, a) {
			t.Fatalf("the ends of %x, %x lie on it", a, b)
		}
		if orient.On(a, a, b) || orient.On(b, b, a) {
			t.Fatalf("%x, %x: On of one point and another one", a, b)
		}
		for _, p := range []api.Point{at(math.Nextafter(a.X, 0x1p100), a.Y), at(a.X, math.Nextafter(a.Y, 0x1p100))} {
			threeAsked(t, a, b, p)
			threeAsked(t, a, a, p)
		}
	}
}

// Segments of which one has its end on the other, next to it on either side, or
// at its very end; and with an end in common.
func TestSegmentsThatTouch(t *testing.T) {
	r := rand.New(rand.NewPCG(4, 2))
	for range 1000 {
		a, b := anyPoint(r, -20, 20), anyPoint(r, -20, 20)
		c, d := nearLine(r, a, b), anyPoint(r, -20, 20)
		fourAsked(t, a, b, c, d)
		fourAsked(t, a, b, a, d)
		fourAsked(t, a, b, c, a)
		fourAsked(t, a, b, c, nearLine(r, a, b))
		fourAsked(t, a, b, a, b)
		fourAsked(t, a, a, c, d)
		fourAsked(t, a, b, c, c)
		middle := at(a.X/2+b.X/2, a.Y/2+b.Y/2)
		fourAsked(t, a, b, middle, d)
	}
}

// Floats that differ in their last bits, where what floats tell of the sum is
// often of the wrong sign.
func TestNextToADiagonal(t *testing.T) {
	for _, far := range []float64{1, 12, 24, 0x1p60} {
		for i := range 40 {
			for j := range 40 {
				p := at(0.5+float64(i-20)*0x1p-53, 0.5+float64(j-20)*0x1p-53)
				threeAsked(t, p, at(far, far), at(2*far, 2*far))
			}
		}
	}
}

func TestPointsNearLines(t *testing.T) {
	r := rand.New(rand.NewPCG(4, 3))
	for range 3000 {
		low := r.IntN(150) - 100
		a, b := anyPoint(r, low, low+r.IntN(40)), anyPoint(r, low, low+r.IntN(40))
		c, d := nearLine(r, a, b), nearLine(r, a, b)
		threeAsked(t, a, b, c)
		threeAsked(t, a, c, d)
		fourAsked(t, a, b, c, d)
		fourAsked(t, a, c, b, d)
	}
}

func TestAnyPoints(t *testing.T) {
	r := rand.New(rand.NewPCG(4, 4))
	for range 3000 {
		low, high := -100, 99
		if r.IntN(2) == 0 {
			low = r.IntN(190) - 100
			high = low + r.IntN(8)
		}
		a, b, c, d := anyPoint(r, low, high), anyPoint(r, low, high), anyPoint(r, low, high), anyPoint(r, low, high)
		threeAsked(t, a, b, c)
		fourAsked(t, a, b, c, d)
	}
}

// All coordinates at the ends of what may be: what is rounded off a difference
// is some 200 bits below it.
func TestEdgeFloats(t *testing.T) {
	r := rand.New(rand.NewPCG(4, 5))
	list := edgeFloats()
	draw := func() api.Point { return at(list[r.IntN(len(list))], list[r.IntN(len(list))]) }
	for range 10000 {
		a, b, c, d := draw(), draw(), draw(), draw()
		threeAsked(t, a, b, c)
		fourAsked(t, a, b, c, d)
	}
	far := at(0x1p100, 0x1p100)
	for _, x := range []struct {
		p    api.Point
		want int
	}{{at(0, 0), 0}, {at(minusZero(), 0), 0}, {at(0, 0x1p-100), 1}, {at(0x1p-100, 0), -1}, {at(0x1p-100, 0x1p-100), 0}} {
		if s := orient.Sign(at(-0x1p100, -0x1p100), far, x.p); s != x.want {
			t.Errorf("Sign of the longest diagonal with %x: %d", x.p, s)
		}
		if on := orient.On(at(-0x1p100, -0x1p100), far, x.p); on != (x.want == 0) {
			t.Errorf("On of the longest diagonal with %x: %v", x.p, on)
		}
	}
}

func TestNoughts(t *testing.T) {
	noughts := []float64{0, minusZero()}
	for _, x := range noughts {
		for _, y := range noughts {
			for _, z := range noughts {
				threeAsked(t, at(x, y), at(y, z), at(z, x))
				threeAsked(t, at(x, 1), at(y, -1), at(z, x))
				threeAsked(t, at(-1, x), at(1, y), at(z, x))
				threeAsked(t, at(x, y), at(1, z), at(0.5, y))
				fourAsked(t, at(x, -1), at(y, 1), at(-1, z), at(1, x))
				fourAsked(t, at(x, y), at(1, 1), at(-1, z), at(1, x))
			}
		}
	}
}

// Whole coordinates up to 1024, of which Fast must know (P4.2); beside them
// sums of 1 and -1, and whole coordinates next above.
func TestWholeCoordinates(t *testing.T) {
	list := []float64{-1024, -1023, 0, 1, 1023, 1024}
	for n := range 6 * 6 * 6 * 6 * 6 * 6 {
		var x [6]float64
		for i := range x {
			x[i] = list[n%6]
			n /= 6
		}
		sum := (x[2]-x[0])*(x[5]-x[1]) - (x[3]-x[1])*(x[4]-x[0])
		s, ok := orient.Fast(at(x[0], x[1]), at(x[2], x[3]), at(x[4], x[5]))
		if sum != 0 && (!ok || float64(s)*sum <= 0) || s != orient.Sign(at(x[0], x[1]), at(x[2], x[3]), at(x[4], x[5])) {
			t.Fatalf("Fast of %v: %d, %v", x, s, ok)
		}
	}
	r := rand.New(rand.NewPCG(4, 6))
	whole := func() float64 { return float64(r.IntN(2049) - 1024) }
	for range 5000 {
		a, b := at(whole(), whole()), at(whole(), whole())
		threeAsked(t, a, b, at(whole(), whole()))
		part := r.Float64()
		threeAsked(t, a, b, at(math.Round(a.X+part*(b.X-a.X)), math.Round(a.Y+part*(b.Y-a.Y))))
		threeAsked(t, a, at(b.X*1025, b.Y*1025), at(whole(), whole()))
	}
	threeAsked(t, at(-1024, -1024), at(1024, 1023), at(1023, 1022))
	threeAsked(t, at(-1024, -1024), at(1024, 1023), at(0, -1))
}

// wrongPoints are points with one coordinate, or both, that may not be.
func wrongPoints(p api.Point) []api.Point {
	var list []api.Point
	for _, x := range wrongFloats() {
		list = append(list, at(x, p.Y), at(p.X, x), at(x, x))
	}
	return list
}

func TestWrongPoints(t *testing.T) {
	rows := [][4]api.Point{
		{at(0, 0), at(2, 0), at(1, 1), at(1, -1)},
		{at(-1, -1), at(1, 1), at(0, 0), at(1, 0)},
		{at(0, 0), at(0, 0), at(0, 0), at(0, 0)},
		{at(-0x1p100, 0), at(0x1p100, 0), at(0, 0x1p100), at(0, -0x1p100)},
	}
	for _, row := range rows {
		for place := range row {
			for _, wrong := range wrongPoints(row[place]) {
				l := row
				l[place] = wrong
				if orient.Cross(l[0], l[1], l[2], l[3]) {
					t.Fatalf("Cross of %x", l)
				}
				if place == 3 {
					continue
				}
				s := orient.Sign(l[0], l[1], l[2])
				fast, ok := orient.Fast(l[0], l[1], l[2])
				if s != 0 || fast != 0 || ok || orient.On(l[0], l[1], l[2]) {
					t.Fatalf("%x: Sign %d, Fast %d %v", l[:3], s, fast, ok)
				}
			}
		}
	}
}

// A point that lies on a segment, or an end of one that crosses another one,
// but for its step: it may not be.
func TestTooFinePoints(t *testing.T) {
	a, b := at(0, 0), at(2, 0)
	if orient.On(a, b, at(0x1p-101, 0)) || orient.On(at(0x1p-101, 0), b, at(1, 0)) || orient.On(at(0x1p-101, 0), at(0x1p-101, 0), at(0x1p-101, 0)) {
		t.Error("On of points that may not be")
	}
	if orient.Cross(a, b, at(1, -1), at(1, 0x1p-101)) || orient.Cross(a, at(0x1p101, 0), at(1, -1), at(1, 1)) {
		t.Error("Cross of points that may not be")
	}
	if !orient.Cross(a, b, at(1, -1), at(1, 0x1p-100)) || !orient.Cross(a, at(0x1p100, 0), at(1, -1), at(1, 1)) {
		t.Error("Cross of points that may be just so")
	}
}
