package gauge_test

import (
	"math"
	"math/rand/v2"
	"testing"

	"trivet/api"
	"trivet/gauge"
)

// centerIs asks for a middle in all orders of the points.
func centerIs(t *testing.T, a, b, c, want api.Point) {
	t.Helper()
	for _, l := range orders(a, b, c) {
		if p, ok := gauge.Center(l[0], l[1], l[2]); !ok || !same(p, want) {
			t.Errorf("Center(%x): %x, %v, want %x", l, p, ok, want)
		}
	}
	centerAsked(t, a, b, c)
}

func noCenter(t *testing.T, a, b, c api.Point) {
	t.Helper()
	for _, l := range orders(a, b, c) {
		if p, ok := gauge.Center(l[0], l[1], l[2]); ok || !same(p, at(0, 0)) {
			t.Errorf("Center(%x): %x, %v", l, p, ok)
		}
	}
	centerAsked(t, a, b, c)
}

// ring are whole points on a circle around (0, 0).
func ring() []api.Point {
	var list []api.Point
	for x := -65; x <= 65; x++ {
		for y := -65; y <= 65; y++ {
			if x*x+y*y == 65*65 {
				list = append(list, at(float64(x), float64(y)))
			}
		}
	}
	return list
}

func TestCenterOfACircle(t *testing.T) {
	r := rand.New(rand.NewPCG(6, 20))
	points := ring()
	for range 500 {
		size := math.Ldexp(1, r.IntN(170)-100)
		middle := at(size*float64(r.IntN(1<<20)), -size*float64(r.IntN(1<<20)))
		if r.IntN(4) == 0 {
			middle = at(0, 0)
		}
		draw := func() api.Point { return moved(middle, points[r.IntN(len(points))], size) }
		a, b, c := draw(), draw(), draw()
		if a == b || b == c || c == a {
			continue
		}
		centerIs(t, a, b, c, middle)
		centerAsked(t, a, b, nudged(r, c))
	}
}

// Of a right angle the middle is that of the side across from it.
func TestCenterOfRightAngles(t *testing.T) {
	r := rand.New(rand.NewPCG(6, 21))
	for range 1000 {
		size := math.Ldexp(1, r.IntN(140)-99)
		whole := func() float64 { return size * float64(r.IntN(1<<21)-1<<20) }
		x, y, u, v := whole(), whole(), whole(), whole()
		if x == u || y == v {
			continue
		}
		centerIs(t, at(x, y), at(u, y), at(x, v), at(noMinus((x+u)/2), noMinus((y+v)/2)))
		w := at(u-x, v-y)
		b, c := moved(at(x, y), w, 2), moved(at(x, y), at(-w.Y, w.X), 4)
		centerIs(t, at(x, y), b, c, at(noMinus((b.X+c.X)/2), noMinus((b.Y+c.Y)/2)))
	}
}

func noMinus(x float64) float64 {
	if x == 0 {
		return 0
	}
	return x
}

// P6.7, up to the ends of what may be.
func TestCenterAtNought(t *testing.T) {
	r := rand.New(rand.NewPCG(6, 22))
	whole := func() float64 {
		x := math.Trunc(math.Ldexp(1+r.Float64(), r.IntN(99)))
		if r.IntN(2) == 0 {
			return -x
		}
		return x
	}
	for range 1000 {
		x, y := whole(), whole()
		centerIs(t, at(0, 0), at(2*x, 0), at(0, 2*y), at(x, y))
	}
	for _, x := range []float64{1, -1, 0x1p99, -0x1p99} {
		for _, y := range []float64{1, 0x1.fffffffffffffp98, 0x1p99} {
			centerIs(t, at(0, 0), at(2*x, 0), at(0, 2*y), at(x, y))
			centerIs(t, at(0, 0), at(2*x, minusZero()), at(minusZero(), -2*y), at(x, -y))
		}
	}
}

func TestCenterIsNoMinusZero(t *testing.T) {
	r := rand.New(rand.NewPCG(6, 23))
	for range 300 {
		p := anyPoint(r, -40, 99)
		centerIs(t, p, at(-p.Y, p.X), at(-p.X, -p.Y), at(0, 0))
		centerIs(t, p, at(p.Y, -p.X), at(-p.X, -p.Y), at(0, 0))
		centerIs(t, at(-1, -2), at(1, -2), at(-1, 4), at(0, 1))
		centerIs(t, at(-2, -1), at(-2, 1), at(4, -1), at(1, 0))
		centerIs(t, at(-2, minusZero()), at(2, minusZero()), at(minusZero(), -2), at(0, 0))
	}
	// Next to 0 on either side: one step; and less, which may not be.
	step := 0x1p-100
	for _, x := range []float64{step, -step} {
		centerIs(t, at(0, 0), at(2*x, 0), at(0, 2), at(x, 1))
		centerIs(t, at(0, 0), at(2, 0), at(0, 2*x), at(1, x))
		noCenter(t, at(0, 0), at(x, 0), at(0, 2))
		noCenter(t, at(0, 0), at(2, 0), at(0, x))
		noCenter(t, at(-3, x), at(3, 0), at(0, 3))
		noCenter(t, at(-0x1p100, x), at(0x1p100, 0), at(0, 0x1p100))
	}
}

// Of two floats as near the one whose last bit is 0 is taken: the middle of two
// floats that are odd and even multiples of one step lies between two floats.
func TestCenterHalfWay(t *testing.T) {
	for _, x := range []struct{ p, q, want float64 }{
		{1, 0x1p53, 0x1p52},
		{3, 0x1p53, 0x1p52 + 2},
		{5, 0x1p53, 0x1p52 + 2},
		{7, 0x1p53, 0x1p52 + 4},
		{1, 0x1p54, 0x1p53},
		{2, 0x1p54, 0x1p53},
		{3, 0x1p54, 0x1p53 + 2},
		{6, 0x1p54, 0x1p53 + 4},
		{0x1p53 - 1, 0x1p54 - 2, 0x1p53 + 0x1p52 - 2},
		{-1, 0x1p53, 0x1p52 - 0.5},
		{-0.5, 0x1p53, 0x1p52},
		{-1.5, 0x1p53, 0x1p52 - 1},
	} {
		for _, size := range []float64{1, -1, 0x1p40, 0x1p-90, -0x1p-52} {
			p, q, want := size*x.p, size*x.q, size*x.want
			if !mayBe(p) || !mayBe(want) {
				continue
			}
			centerIs(t, at(p, 0), at(q, 0), at(p, 2*size), at(want, size))
			centerIs(t, at(0, q), at(0, p), at(8*size, p), at(4*size, want))
		}
	}
}

// Middles that are half way between two floats but for very little.
func TestCenterNearlyHalfWay(t *testing.T) {
	r := rand.New(rand.NewPCG(6, 24))
	above, below, just := 0, 0, 0
	for n := range 2000 {
		size := math.Ldexp(1, r.IntN(46))
		p, q := size*float64(1+2*r.IntN(8)), size*(0x1p53+2*float64(r.IntN(8)))
		b := at(q, float64(n%3-1)*math.Ldexp(1, r.IntN(100)-100))
		a, c := at(p, 0), at(size*float64(r.IntN(64)), size*float64(1+r.IntN(1<<30)))
		centerAsked(t, a, b, c)
		middle, _ := exactMiddle(t, a, b, c)
		switch middle.x.Cmp(plus(times(rat(p), rat(0.5)), times(rat(q), rat(0.5)))) {
		case 1:
			above++
		case -1:
			below++
		default:
			just++
		}
	}
	if above < 500 || below < 500 || just < 500 {
		t.Error("too few of them:", above, below, just)
	}
}

// A middle whose coordinate is (p + q) / 2, and h / 2 + p q / (2 h).
func TestCenterTooGreat(t *testing.T) {
	far := func(p, q, h, aside float64) (a, b, c api.Point) { return at(p, 0), at(q, 0), at(aside, h) }
	a, b, c := far(0x1p26, 0x1p25, 0x1p-50, 0) // 2^-51 beyond 2^100
	centerIs(t, a, b, c, at(0x1.8p25, 0x1p100))
	a, b, c = far(-0x1p26, 0x1p25, 0x1p-50, 0)
	centerIs(t, a, b, c, at(-0x1p24, -0x1p100))
	a, b, c = far(0x1.0000000000001p26, 0x1p25, 0x1p-50, 0)
	noCenter(t, a, b, c)
	a, b, c = far(-0x1.0000000000001p26, 0x1p25, 0x1p-50, 0)
	noCenter(t, a, b, c)
	// Half way between 2^100 and the float beyond it, and next to that.
	a, b, c = far(0x1p75, 0x1p74, 0x1p48, 0)
	centerIs(t, a, b, c, at(0x1.8p74, 0x1p100))
	a, b, c = far(0x1p75, 0x1p74, 0x1p48, 0x1p-100)
	centerIs(t, a, b, c, at(0x1.8p74, 0x1p100))
	a, b, c = far(0x1p75, 0x1p74, 0x1p48, -0x1p-100)
	noCenter(t, a, b, c)
	// In X as in Y, and the farthest of all.
	noCenter(t, at(0, 0x1.0000000000001p26), at(0, 0x1p25), at(0x1p-50, 0))
	centerIs(t, at(0, 0x1p26), at(0, 0x1p25), at(0x1p-50, 0), at(0x1p100, 0x1.8p25))
	noCenter(t, at(-0x1p100, 0), at(0x1p100, 0), at(0, 0x1p-100))
	noCenter(t, at(-0x1p100, -0x1p100), at(0x1p100, 0x1p100), at(0x1p-100, 0))
	centerIs(t, at(-1, 0), at(1, 0), at(0, 0x1p-100), at(0, -0x1p99))
	noCenter(t, at(-2, 0), at(2, 0), at(0, 0x1p-100))
}

// Bits below the points' step, in one coordinate or in both.
func TestCenterTooFine(t *testing.T) {
	step := 0x1p-100
	centerIs(t, at(0, 0), at(2*step, 0), at(0, 2*step), at(step, step))
	noCenter(t, at(0, 0), at(step, 0), at(0, step))
	noCenter(t, at(0, 0), at(2*step, 0), at(0, step))
	noCenter(t, at(0, 0), at(step, 0), at(0, 2*step))
	noCenter(t, at(0, 0), at(3*step, 0), at(0, 2))
	centerIs(t, at(0, 0), at(6*step, 0), at(0, 2), at(3*step, 1))
	// A third of 2^(k+2) has bits down to 2^(k-52).
	for k, ok := range map[int]bool{0: true, -47: true, -48: true, -49: false, -60: false, -98: false} {
		x := math.Ldexp(1, k)
		if p, is := gauge.Center(at(-x, 0), at(x, 0), at(0, 3*x)); is != ok {
			t.Errorf("Center of 2^%d: %x, %v", k, p, is)
		}
		centerAsked(t, at(-x, 0), at(x, 0), at(0, 3*x))
	}
}

// Some coordinates the greatest that may be, others the least.
func TestCenterOfGreatAndSmall(t *testing.T) {
	great, step := 0x1p100, 0x1p-100
	centerIs(t, at(great, great), at(-great, great), at(-great, -great), at(0, 0))
	centerIs(t, at(0, 0), at(great, 0), at(0, 2*step), at(0x1p99, step))
	centerIs(t, at(great, 2*step), at(great, 0), at(-great, 0), at(0, step))
	noCenter(t, at(great, step), at(great, 0), at(-great, 0))
	list := []float64{great, -great, step, -step, 2 * step, 0, 0x1.fffffffffffffp99, 1}
	r := rand.New(rand.NewPCG(6, 25))
	draw := func() api.Point { return at(list[r.IntN(len(list))], list[r.IntN(len(list))]) }
	for range 2000 {
		centerAsked(t, draw(), draw(), draw())
	}
}

// Points close together, far from nought, so that all but the last bits go.
func TestCenterOfClosePoints(t *testing.T) {
	r := rand.New(rand.NewPCG(6, 26))
	for range 2000 {
		p := anyPoint(r, -20, 90)
		q := p
		if r.IntN(2) == 0 {
			q = moved(p, at(r.Float64(), r.Float64()), 0x1p-20)
		}
		centerAsked(t, nudged(r, p), nudged(r, q), nudged(r, p))
	}
}
