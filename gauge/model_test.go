package gauge_test

import (
	"math"
	"math/big"
	"math/rand/v2"
	"slices"
	"testing"

	"trivet/api"
	"trivet/gauge"
)

func at(x, y float64) api.Point { return api.Point{X: x, Y: y} }

// place is a point as rational numbers.
type place struct{ x, y *big.Rat }

func rat(x float64) *big.Rat { return new(big.Rat).SetFloat64(x) }

// mayBe reckons in whole steps of 2^-100, not in floats.
func mayBe(x float64) bool {
	exact := rat(x)
	if exact == nil {
		return false
	}
	reach := new(big.Rat).SetInt(new(big.Int).Lsh(big.NewInt(1), 100))
	small := new(big.Rat).Abs(exact).Cmp(reach) <= 0
	return small && exact.Mul(exact, reach).IsInt()
}

func places(points ...api.Point) ([]place, bool) {
	list := make([]place, len(points))
	for i, p := range points {
		if !mayBe(p.X) || !mayBe(p.Y) {
			return nil, false
		}
		list[i] = place{rat(p.X), rat(p.Y)}
	}
	return list, true
}

func plus(a, b *big.Rat) *big.Rat  { return new(big.Rat).Add(a, b) }
func minus(a, b *big.Rat) *big.Rat { return new(big.Rat).Sub(a, b) }
func times(a, b *big.Rat) *big.Rat { return new(big.Rat).Mul(a, b) }

func less(p, q place) place       { return place{minus(p.x, q.x), minus(p.y, q.y)} }
func along(p, q place) *big.Rat   { return plus(times(p.x, q.x), times(p.y, q.y)) }
func turn(p, q place) *big.Rat    { return minus(times(p.x, q.y), times(p.y, q.x)) }
func length2(p, q place) *big.Rat { return along(less(q, p), less(q, p)) }

func modelCmp(a, b, c, d api.Point) int {
	l, ok := places(a, b, c, d)
	if !ok {
		return 0
	}
	return length2(l[0], l[1]).Cmp(length2(l[2], l[3]))
}

func modelDot(a, b, p api.Point) int {
	l, ok := places(a, b, p)
	if !ok {
		return 0
	}
	return along(less(l[0], l[2]), less(l[1], l[2])).Sign()
}

// exactArea is for points that may be.
func exactArea(a, b, c api.Point) *big.Rat {
	l, _ := places(a, b, c)
	twice := turn(less(l[1], l[0]), less(l[2], l[0]))
	return times(twice.Abs(twice), big.NewRat(1, 2))
}

// exactCosine2 is for points that may be: of the angle at a the cosine, squared;
// 0, if there is no angle.
func exactCosine2(a, b, c api.Point) *big.Rat {
	if a == b || a == c {
		return new(big.Rat)
	}
	l, _ := places(a, b, c)
	dot := along(less(l[1], l[0]), less(l[2], l[0]))
	return new(big.Rat).Quo(times(dot, dot), times(length2(l[0], l[1]), length2(l[0], l[2])))
}

// exactMiddle looks for the middle from a on, and makes sure of it.
func exactMiddle(t *testing.T, a, b, c api.Point) (place, bool) {
	t.Helper()
	l, ok := places(a, b, c)
	if !ok {
		return place{}, false
	}
	u, v := less(l[1], l[0]), less(l[2], l[0])
	w := times(big.NewRat(2, 1), turn(u, v))
	if w.Sign() == 0 {
		return place{}, false
	}
	uu, vv := along(u, u), along(v, v)
	x := new(big.Rat).Quo(minus(times(v.y, uu), times(u.y, vv)), w)
	y := new(big.Rat).Quo(minus(times(u.x, vv), times(v.x, uu)), w)
	middle := place{plus(l[0].x, x), plus(l[0].y, y)}
	far := length2(middle, l[0])
	if far.Cmp(length2(middle, l[1])) != 0 || far.Cmp(length2(middle, l[2])) != 0 {
		t.Fatalf("the model's middle of %x, %x, %x is none", a, b, c)
	}
	return middle, true
}

// settled is a point that was reckoned, or nothing, if it may not be.
func settled(x, y float64) (api.Point, bool) {
	if !mayBe(x) || !mayBe(y) {
		return api.Point{}, false
	}
	return at(x, y), true
}

// rounded is the float nearest to x; of 0 it is 0.
func rounded(x *big.Rat) float64 {
	f, _ := x.Float64()
	if f == 0 {
		return 0
	}
	return f
}

func modelCenter(t *testing.T, a, b, c api.Point) (api.Point, bool) {
	t.Helper()
	middle, ok := exactMiddle(t, a, b, c)
	if !ok {
		return api.Point{}, false
	}
	return settled(rounded(middle.x), rounded(middle.y))
}

// modelPoint rounds each bracket by itself.
func modelPoint(a, b api.Point, t float64) (api.Point, bool) {
	l, ok := places(a, b)
	if !ok || rat(t) == nil || t < 0 || t > 1 {
		return api.Point{}, false
	}
	part := func(from, to *big.Rat) float64 {
		apart := rounded(minus(to, from))
		step := rounded(times(rat(t), rat(apart)))
		return rounded(plus(from, rat(step)))
	}
	return settled(part(l[0].x, l[1].x), part(l[0].y, l[1].y))
}

// same asks for the same bits, since -0 is no 0 here.
func same(p, q api.Point) bool {
	return math.Float64bits(p.X) == math.Float64bits(q.X) && math.Float64bits(p.Y) == math.Float64bits(q.Y)
}

// around are the floats nearest to x, on either side of it.
func around(x *big.Rat) []float64 {
	f := rounded(x)
	up, down := math.Nextafter(f, math.Inf(1)), math.Nextafter(f, math.Inf(-1))
	return []float64{f, up, down, math.Nextafter(up, math.Inf(1)), math.Nextafter(down, math.Inf(-1))}
}

// bounds are what areas and cosines are held against, wrong ones too.
func bounds() []float64 {
	list := []float64{math.NaN()}
	for _, x := range []float64{0, math.SmallestNonzeroFloat64, 0x1p-1022, 0.25, 0.5, 0.75, math.Nextafter(1, 0), 1, math.Nextafter(1, 2), 4, math.MaxFloat64, math.Inf(1)} {
		list = append(list, x, -x)
	}
	return append(list, minusZero())
}

// orders are all orders of three.
func orders(a, b, c api.Point) [6][3]api.Point {
	return [6][3]api.Point{{a, b, c}, {b, c, a}, {c, a, b}, {b, a, c}, {a, c, b}, {c, b, a}}
}

func cmpAsked(t *testing.T, a, b, c, d api.Point) {
	t.Helper()
	for _, l := range [][4]api.Point{{a, b, c, d}, {a, c, b, d}, {a, d, b, c}} {
		want := modelCmp(l[0], l[1], l[2], l[3])
		for _, n := range [4]int{
			gauge.Cmp(l[0], l[1], l[2], l[3]), gauge.Cmp(l[1], l[0], l[2], l[3]),
			-gauge.Cmp(l[2], l[3], l[0], l[1]), -gauge.Cmp(l[3], l[2], l[0], l[1]),
		} {
			if n != want {
				t.Fatalf("Cmp of %x, in some order: %d, want %d", l, n, want)
			}
		}
	}
}

// threeAsked holds all that is answered of three points that may be, in each
// order, against the model.
func threeAsked(t *testing.T, a, b, c api.Point) {
	t.Helper()
	centerAsked(t, a, b, c)
	areaAsked(t, a, b, c)
	for _, l := range orders(a, b, c) {
		dotAsked(t, l[0], l[1], l[2])
		sharpAsked(t, l[0], l[1], l[2])
	}
}

func dotAsked(t *testing.T, a, b, p api.Point) {
	t.Helper()
	if n, want := gauge.Dot(a, b, p), modelDot(a, b, p); n != want {
		t.Fatalf("Dot(%x, %x, %x): %d, want %d", a, b, p, n, want)
	}
}

// areaAsked holds the area against all bounds, those next to it, and more.
func areaAsked(t *testing.T, a, b, c api.Point, more ...float64) {
	t.Helper()
	area := exactArea(a, b, c)
	for _, most := range slices.Concat(bounds(), around(area), more) {
		want := 0
		if rat(most) != nil {
			want = area.Cmp(rat(most))
		}
		for _, l := range orders(a, b, c) {
			if n := gauge.Area(l[0], l[1], l[2], most); n != want {
				t.Fatalf("Area(%x, %x): %d, want %d", l, most, n, want)
			}
		}
	}
}

// sharpAsked holds the angle at a against all bounds, and those next to it.
func sharpAsked(t *testing.T, a, b, c api.Point) {
	t.Helper()
	cosine2, below := exactCosine2(a, b, c), modelDot(b, c, a) > 0
	for _, g := range slices.Concat(bounds(), around(cosine2)) {
		want := below && rat(g) != nil && cosine2.Cmp(rat(g)) > 0
		if yes := gauge.Sharp(a, b, c, g); yes != want {
			t.Fatalf("Sharp(%x, %x, %x, %x): %v", a, b, c, g, yes)
		}
	}
}

func centerAsked(t *testing.T, a, b, c api.Point) {
	t.Helper()
	want, may := modelCenter(t, a, b, c)
	for _, l := range orders(a, b, c) {
		if p, ok := gauge.Center(l[0], l[1], l[2]); !same(p, want) || ok != may {
			t.Fatalf("Center(%x): %x, %v, want %x, %v", l, p, ok, want, may)
		}
	}
}

func pointAsked(t *testing.T, a, b api.Point, part float64) {
	t.Helper()
	want, may := modelPoint(a, b, part)
	if p, ok := gauge.Point(a, b, part); !same(p, want) || ok != may {
		t.Fatalf("Point(%x, %x, %x): %x, %v, want %x, %v", a, b, part, p, ok, want, may)
	}
}

// stepped is the float nearby that is a multiple of 2^-100 and not beyond the
// end.
func stepped(x float64) float64 {
	x = math.Trunc(x*0x1p100) * 0x1p-100
	return max(-0x1p100, min(x, 0x1p100))
}

// anyCoordinate has any bits, and any magnitude from 2^low to 2^high.
func anyCoordinate(r *rand.Rand, low, high int) float64 {
	x := math.Ldexp(1+r.Float64(), low+r.IntN(high-low+1))
	if r.IntN(2) == 0 {
		x = -x
	}
	return stepped(x)
}

func anyPoint(r *rand.Rand, low, high int) api.Point {
	return at(anyCoordinate(r, low, high), anyCoordinate(r, low, high))
}

// drawer draws points of one size, or of all sizes.
func drawer(r *rand.Rand) func() api.Point {
	low, high := -100, 99
	if r.IntN(3) > 0 {
		low = r.IntN(190) - 100
		high = low + r.IntN(8)
	}
	return func() api.Point { return anyPoint(r, low, high) }
}

// nudged moves a point by a few floats.
func nudged(r *rand.Rand, p api.Point) api.Point {
	for _, x := range []*float64{&p.X, &p.Y} {
		for range r.IntN(3) {
			*x = math.Nextafter(*x, math.Inf(1-2*r.IntN(2)))
		}
		*x = stepped(*x)
	}
	return p
}

func minusZero() float64 { return math.Copysign(0, -1) }
