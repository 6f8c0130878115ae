package orient_test

import (
	"math"
	"math/big"
	"math/rand/v2"
	"testing"

	"trivet/api"
	"trivet/orient"
)

func at(x, y float64) api.Point { return api.Point{X: x, Y: y} }

// place is a point in whole steps of 2^-100.
type place struct{ x, y *big.Int }

func steps(x float64) (*big.Int, bool) {
	exact := new(big.Rat).SetFloat64(x)
	if exact == nil {
		return nil, false
	}
	reach := new(big.Int).Lsh(big.NewInt(1), 100)
	exact.Mul(exact, new(big.Rat).SetInt(reach))
	most := new(big.Int).Mul(reach, reach)
	return exact.Num(), exact.IsInt() && exact.Num().CmpAbs(most) <= 0
}

func placeOf(p api.Point) (place, bool) {
	x, okX := steps(p.X)
	y, okY := steps(p.Y)
	return place{x, y}, okX && okY
}

func places(points ...api.Point) ([]place, bool) {
	list := make([]place, len(points))
	for i, p := range points {
		var ok bool
		if list[i], ok = placeOf(p); !ok {
			return nil, false
		}
	}
	return list, true
}

func less(p, q place) place {
	return place{new(big.Int).Sub(p.x, q.x), new(big.Int).Sub(p.y, q.y)}
}

func times(a, b *big.Int) *big.Int { return new(big.Int).Mul(a, b) }

// turn is p.x q.y - p.y q.x.
func turn(p, q place) *big.Int {
	return new(big.Int).Sub(times(p.x, q.y), times(p.y, q.x))
}

func modelSign(a, b, c api.Point) int {
	l, ok := places(a, b, c)
	if !ok {
		return 0
	}
	return turn(less(l[1], l[0]), less(l[2], l[0])).Sign()
}

// modelOn: seen from p, the ends stand on one line with it, and not both on one
// side of it.
func modelOn(a, b, p api.Point) bool {
	l, ok := places(a, b, p)
	if !ok {
		return false
	}
	toA, toB := less(l[0], l[2]), less(l[1], l[2])
	along := new(big.Int).Add(times(toA.x, toB.x), times(toA.y, toB.y))
	return turn(toA, toB).Sign() == 0 && along.Sign() <= 0
}

// modelCross looks for the point that the two lines have in common, and asks
// how far along each segment it stands. (Segments on one line that have just
// one point in common have an end there.)
func modelCross(a, b, c, d api.Point) bool {
	l, ok := places(a, b, c, d)
	if !ok {
		return false
	}
	ab, cd, ac := less(l[1], l[0]), less(l[3], l[2]), less(l[2], l[0])
	whole := turn(ab, cd)
	if whole.Sign() == 0 {
		return false
	}
	inner := func(part *big.Int) bool {
		share := new(big.Rat).SetFrac(part, whole)
		return share.Sign() > 0 && share.Cmp(big.NewRat(1, 1)) < 0
	}
	return inner(turn(ac, cd)) && inner(turn(ac, ab))
}

// small: whole coordinates of which Fast must know.
func small(points ...api.Point) bool {
	for _, p := range points {
		for _, x := range []float64{p.X, p.Y} {
			if !(math.Abs(x) <= 1024 && math.Trunc(x) == x) {
				return false
			}
		}
	}
	return true
}

// threeAsked holds all that is answered of three points against the model, in
// each order of the three (P4.1 to P4.4).
func threeAsked(t *testing.T, a, b, c api.Point) {
	t.Helper()
	want := modelSign(a, b, c)
	for _, x := range []struct {
		a, b, c api.Point
		want    int
	}{{a, b, c, want}, {b, c, a, want}, {c, a, b, want}, {b, a, c, -want}, {a, c, b, -want}, {c, b, a, -want}} {
		if s := orient.Sign(x.a, x.b, x.c); s != x.want {
			t.Fatalf("Sign(%x, %x, %x): %d, want %d", x.a, x.b, x.c, s, x.want)
		}
		s, ok := orient.Fast(x.a, x.b, x.c)
		if ok && s != x.want || !ok && s != 0 {
			t.Fatalf("Fast(%x, %x, %x): %d, %v, want %d", x.a, x.b, x.c, s, ok, x.want)
		}
		if _, may := places(a, b, c); ok && !may {
			t.Fatalf("Fast(%x, %x, %x) knows, but one may not be", x.a, x.b, x.c)
		}
		if !ok && x.want != 0 && small(a, b, c) {
			t.Fatalf("Fast(%x, %x, %x) does not know", x.a, x.b, x.c)
		}
		if on := modelOn(x.a, x.b, x.c); orient.On(x.a, x.b, x.c) != on {
			t.Fatalf("On(%x, %x, %x): %v", x.a, x.b, x.c, !on)
		}
	}
}

// fourAsked asks Cross from each end of each segment.
func fourAsked(t *testing.T, a, b, c, d api.Point) {
	t.Helper()
	want := modelCross(a, b, c, d)
	for _, x := range [][4]api.Point{
		{a, b, c, d}, {a, b, d, c}, {b, a, c, d}, {b, a, d, c},
		{c, d, a, b}, {c, d, b, a}, {d, c, a, b}, {d, c, b, a},
	} {
		if orient.Cross(x[0], x[1], x[2], x[3]) != want {
			t.Fatalf("Cross(%x, %x, %x, %x): %v", x[0], x[1], x[2], x[3], !want)
		}
	}
}

// stepped is the float nearby that is a multiple of 2^-100 and not beyond the
// end.
func stepped(x float64) float64 {
	x = math.Trunc(x*0x1p100) * 0x1p-100
	return max(-0x1p100, min(x, 0x1p100))
}

// anyCoordinate has any bits, and any magnitude from 2^low to 2^high.
func anyCoordinate(r *rand.Rand, low, high int) float64 {
	x := math.Ldexp(1+r.Float64(), low+r.IntN(high-low+1))
	if r.IntN(2) == 0 {
		x = -x
	}
	return stepped(x)
}

func anyPoint(r *rand.Rand, low, high int) api.Point {
	return at(anyCoordinate(r, low, high), anyCoordinate(r, low, high))
}

// nudged moves a coordinate by a few floats.
func nudged(r *rand.Rand, x float64) float64 {
	for range r.IntN(3) {
		x = math.Nextafter(x, math.Inf(1-2*r.IntN(2)))
	}
	return stepped(x)
}

// nearLine is a point next to the line from a to b, mostly between them.
func nearLine(r *rand.Rand, a, b api.Point) api.Point {
	part := 1.5*r.Float64() - 0.25
	return at(nudged(r, a.X+part*(b.X-a.X)), nudged(r, a.Y+part*(b.Y-a.Y)))
}
