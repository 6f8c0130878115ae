package circle_test

import (
	"math"
	"math/big"
	"math/rand/v2"
	"testing"

	"trivet/api"
	"trivet/circle"
)

func at(x, y float64) api.Point { return api.Point{X: x, Y: y} }

// place is a point in whole steps of 2^-100.
type place struct{ x, y *big.Int }

func steps(x float64) (*big.Int, bool) {
	exact := new(big.Rat).SetFloat64(x)
	if exact == nil {
		return nil, false
	}
	reach := new(big.Int).Lsh(big.NewInt(1), 100)
	exact.Mul(exact, new(big.Rat).SetInt(reach))
	most := new(big.Int).Mul(reach, reach)
	return exact.Num(), exact.IsInt() && exact.Num().CmpAbs(most) <= 0
}

func places(l [4]api.Point) ([4]place, bool) {
	var list [4]place
	for i, p := range l {
		x, okX := steps(p.X)
		y, okY := steps(p.Y)
		if !okX || !okY {
			return [4]place{}, false
		}
		list[i] = place{x, y}
	}
	return list, true
}

func plus(a, b *big.Int) *big.Int  { return new(big.Int).Add(a, b) }
func minus(a, b *big.Int) *big.Int { return new(big.Int).Sub(a, b) }
func times(a, b *big.Int) *big.Int { return new(big.Int).Mul(a, b) }

func less(p, q place) place { return place{minus(p.x, q.x), minus(p.y, q.y)} }

func square(p place) *big.Int { return plus(times(p.x, p.x), times(p.y, p.y)) }

// turn is p.x q.y - p.y q.x.
func turn(p, q place) *big.Int { return minus(times(p.x, q.y), times(p.y, q.x)) }

// modelSign reckons as the chapter's words say it, by the first row.
func modelSign(l [4]api.Point) int {
	at, ok := places(l)
	if !ok {
		return 0
	}
	a, b, c := less(at[0], at[3]), less(at[1], at[3]), less(at[2], at[3])
	a3, b3, c3 := square(a), square(b), square(c)
	sum := times(a.x, minus(times(b.y, c3), times(c.y, b3)))
	sum = minus(sum, times(a.y, minus(times(b.x, c3), times(c.x, b3))))
	return plus(sum, times(a3, minus(times(b.x, c.y), times(c.x, b.y)))).Sign()
}

// modelWithin looks for the middle of the circle, seen from a: mx / w, my / w;
// and asks whether d is nearer to it than a.
func modelWithin(l [4]api.Point) bool {
	at, ok := places(l)
	if !ok {
		return false
	}
	b, c, d := less(at[1], at[0]), less(at[2], at[0]), less(at[3], at[0])
	w := times(big.NewInt(2), turn(b, c))
	if w.Sign() == 0 {
		return false
	}
	middle := place{
		minus(times(c.y, square(b)), times(b.y, square(c))),
		minus(times(b.x, square(c)), times(c.x, square(b))),
	}
	away := less(place{times(d.x, w), times(d.y, w)}, middle)
	return square(away).Cmp(square(middle)) < 0
}

// small: whole coordinates of which Fast must know.
func small(l [4]api.Point) bool {
	for _, p := range l {
		for _, x := range []float64{p.X, p.Y} {
			if !(math.Abs(x) <= 1024 && math.Trunc(x) == x) {
				return false
			}
		}
	}
	return true
}

// orders are all orders of four, and whether two are changed about an even
// number of times.
func orders() (list [][4]int, even []bool) {
	for n := range 4 * 4 * 4 * 4 {
		o := [4]int{n / 64, n / 16 % 4, n / 4 % 4, n % 4}
		turned, twice := 0, false
		for i := range o {
			for j := range i {
				twice = twice || o[i] == o[j]
				if o[i] < o[j] {
					turned++
				}
			}
		}
		if !twice {
			list, even = append(list, o), append(even, turned%2 == 0)
		}
	}
	return list, even
}

// held holds what is answered of four points in one order against what the
// model answers.
func held(t *testing.T, l [4]api.Point, want int, may bool) {
	t.Helper()
	if s := circle.Sign(l[0], l[1], l[2], l[3]); s != want {
		t.Fatalf("Sign of %x: %d, want %d", l, s, want)
	}
	s, ok := circle.Fast(l[0], l[1], l[2], l[3])
	if ok && s != want || !ok && s != 0 {
		t.Fatalf("Fast of %x: %d, %v, want %d", l, s, ok, want)
	}
	if ok && !may {
		t.Fatalf("Fast of %x knows, but one may not be", l)
	}
	if !ok && want != 0 && small(l) {
		t.Fatalf("Fast of %x does not know", l)
	}
}

// asked holds all that is answered of four points, in each order, against the
// model (P5.1 to P5.4).
func asked(t *testing.T, a, b, c, d api.Point) {
	t.Helper()
	l := [4]api.Point{a, b, c, d}
	_, may := places(l)
	sign := modelSign(l)
	list, even := orders()
	for i, o := range list {
		want := sign
		if !even[i] {
			want = -sign
		}
		held(t, [4]api.Point{l[o[0]], l[o[1]], l[o[2]], l[o[3]]}, want, may)
	}
	for last := range l {
		q := l
		q[last], q[3] = q[3], q[last]
		within := modelWithin(q)
		if circle.Within(q[0], q[1], q[2], q[3]) != within || circle.Within(q[1], q[0], q[2], q[3]) != within {
			t.Fatalf("Within of %x: %v", q, !within)
		}
	}
}

// stepped is the float nearby that is a multiple of 2^-100 and not beyond the
// end.
func stepped(x float64) float64 {
	x = math.Trunc(x*0x1p100) * 0x1p-100
	return max(-0x1p100, min(x, 0x1p100))
}

// anyCoordinate has any bits, and any magnitude from 2^low to 2^high.
func anyCoordinate(r *rand.Rand, low, high int) float64 {
	x := math.Ldexp(1+r.Float64(), low+r.IntN(high-low+1))
	if r.IntN(2) == 0 {
		x = -x
	}
	return stepped(x)
}

func anyPoint(r *rand.Rand, low, high int) api.Point {
	return at(anyCoordinate(r, low, high), anyCoordinate(r, low, high))
}

// nudged moves a coordinate by a few floats.
func nudged(r *rand.Rand, x float64) float64 {
	for range r.IntN(3) {
		x = math.Nextafter(x, math.Inf(1-2*r.IntN(2)))
	}
	return stepped(x)
}

// nearCircle is a point next to a circle.
func nearCircle(r *rand.Rand, middle api.Point, radius float64) api.Point {
	sin, cos := math.Sincos(2 * math.Pi * r.Float64())
	return at(nudged(r, middle.X+radius*cos), nudged(r, middle.Y+radius*sin))
}

// ring are whole points on a circle around (0, 0).
func ring() []api.Point {
	var list []api.Point
	for x := -65; x <= 65; x++ {
		for y := -65; y <= 65; y++ {
			if x*x+y*y == 65*65 {
				list = append(list, at(float64(x), float64(y)))
			}
		}
	}
	return list
}
