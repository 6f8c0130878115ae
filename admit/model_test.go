package admit_test

import (
	"math"
	"math/big"
	"math/rand/v2"
	"slices"
	"testing"

	"trivet/admit"
	"trivet/api"
)

func at(x, y float64) api.Point { return api.Point{X: x, Y: y} }

func minusZero() float64 { return math.Copysign(0, -1) }

// place is a point in whole steps of 2^-100.
type place struct{ x, y *big.Int }

// steps counts in whole numbers, not in floats.
func steps(x float64) (*big.Int, bool) {
	exact := new(big.Rat).SetFloat64(x)
	if exact == nil {
		return nil, false
	}
	reach := new(big.Int).Lsh(big.NewInt(1), 100)
	exact.Mul(exact, new(big.Rat).SetInt(reach))
	most := new(big.Int).Mul(reach, reach)
	return exact.Num(), exact.IsInt() && exact.Num().CmpAbs(most) <= 0
}

func placeOf(p api.Point) (place, bool) {
	x, okX := steps(p.X)
	y, okY := steps(p.Y)
	return place{x, y}, okX && okY
}

func modelMay(p api.Point) bool {
	_, ok := placeOf(p)
	return ok
}

func held(p, q place) int {
	if c := p.x.Cmp(q.x); c != 0 {
		return c
	}
	return p.y.Cmp(q.y)
}

func modelCmp(p, q api.Point) int {
	a, okA := placeOf(p)
	b, okB := placeOf(q)
	if !okA || !okB {
		return 0
	}
	return held(a, b)
}

// onLine tells whether three places lie on a line.
func onLine(a, b, c place) bool {
	across := func(u, v, x, y *big.Int) *big.Int {
		left, right := new(big.Int).Sub(u, v), new(big.Int).Sub(x, y)
		return left.Mul(left, right)
	}
	return across(b.x, a.x, c.y, a.y).Cmp(across(b.y, a.y, c.x, a.x)) == 0
}

// answers are all that is told of a list.
type answers struct {
	place  int
	err    api.Errno
	order  []int
	twins  []int
	unlike []int
	flat   bool
}

func (a answers) same(b answers) bool {
	return a.place == b.place && a.err == b.err && a.flat == b.flat &&
		slices.Equal(a.order, b.order) && slices.Equal(a.twins, b.twins) && slices.Equal(a.unlike, b.unlike)
}

func told(l []api.Point) answers {
	var a answers
	a.place, a.err = admit.All(l)
	a.order, a.twins, a.unlike = admit.Order(l), admit.Twins(l), admit.Unlike(l)
	a.flat = admit.Flat(l)
	return a
}

// modelOf sorts nothing and keeps no map: it holds each point against each, and
// looks at any three.
func modelOf(l []api.Point) answers {
	if len(l) > api.MaxPoints {
		return answers{err: api.ErrFull}
	}
	places := make([]place, len(l))
	for i, p := range l {
		var ok bool
		if places[i], ok = placeOf(p); !ok {
			return answers{place: i, err: api.ErrRange}
		}
	}
	a := answers{order: make([]int, len(l)), twins: make([]int, len(l)), flat: modelFlat(places)}
	for i, p := range places {
		a.order[ahead(places, i)] = i
		a.twins[i] = slices.IndexFunc(places, func(q place) bool { return held(p, q) == 0 })
	}
	for _, i := range a.order {
		if a.twins[i] == i {
			a.unlike = append(a.unlike, i)
		}
	}
	return a
}

// ahead counts the points that come ahead of the one with number i.
func ahead(places []place, i int) int {
	n := 0
	for j, q := range places {
		if c := held(q, places[i]); c < 0 || c == 0 && j < i {
			n++
		}
	}
	return n
}

func modelFlat(places []place) bool {
	for i, a := range places {
		for j, b := range places[:i] {
			for _, c := range places[:j] {
				if !onLine(a, b, c) {
					return false
				}
			}
		}
	}
	return true
}

// listAsked holds all that is told of a list against the model. The room behind
// the list's end has points that may not be, which nobody may look at; what is
// handed out is written over, and asked for again.
func listAsked(t *testing.T, l []api.Point) {
	t.Helper()
	wrong := at(math.NaN(), math.Inf(1))
	room := slices.Concat(l, []api.Point{wrong, wrong, wrong})
	handed := room[:len(l)]
	want := modelOf(l)
	for range 2 {
		got := told(handed)
		if !got.same(want) {
			t.Fatalf("of %x: %+v, want %+v", l, got, want)
		}
		for _, list := range [][]int{got.order, got.twins, got.unlike} {
			list = list[:cap(list)]
			for i := range list {
				list[i] = -7
			}
		}
		if !slices.EqualFunc(room[:len(l)], l, sameBits) || !sameBits(room[len(l)], wrong) {
			t.Fatalf("%x was changed: %x", l, room)
		}
	}
}

func sameBits(p, q api.Point) bool {
	return math.Float64bits(p.X) == math.Float64bits(q.X) && math.Float64bits(p.Y) == math.Float64bits(q.Y)
}

// wrongFloats may not be coordinates, each for a reason of its own.
func wrongFloats() []float64 {
	list := []float64{math.NaN()}
	for _, x := range []float64{
		math.Inf(1), math.MaxFloat64, 0x1p101, math.Nextafter(0x1p100, math.Inf(1)),
		0x1p-101, 0x1.8p-100, 0x1.0000000000001p-100, 0x1.fffffffffffffp-101, 0x1.0000000000001p-49,
		0x1p-1022, math.SmallestNonzeroFloat64,
	} {
		list = append(list, x, -x)
	}
	return list
}

// edgeFloats are coordinates at the ends of what may be.
func edgeFloats() []float64 {
	list := []float64{0, minusZero()}
	for _, x := range []float64{
		0x1p-100, 0x1p-99, 0x1.8p-99, 0x1.0000000000001p-48, 0x1.0000000000002p-49, 0.1, 1,
		math.Nextafter(1, 2), 0x1.fffffffffffffp99, 0x1p100,
	} {
		list = append(list, x, -x)
	}
	return list
}

// stepped is the float nearby that is a multiple of 2^-100 and not beyond the
// end.
func stepped(x float64) float64 {
	x = math.Trunc(x*0x1p100) * 0x1p-100
	return max(-0x1p100, min(x, 0x1p100))
}

// anyCoordinate has any bits, and any magnitude from 2^low to 2^high.
func anyCoordinate(r *rand.Rand, low, high int) float64 {
	x := math.Ldexp(1+r.Float64(), low+r.IntN(high-low+1))
	if r.IntN(2) == 0 {
		x = -x
	}
	return stepped(x)
}

func anyPoint(r *rand.Rand, low, high int) api.Point {
	return at(anyCoordinate(r, low, high), anyCoordinate(r, low, high))
}

// drawnList is often short of unlike points, or of unlike coordinates; half of
// its noughts are -0.
func drawnList(r *rand.Rand) []api.Point {
	l := make([]api.Point, r.IntN(24))
	side := 1 + r.IntN(4)
	edges := edgeFloats()
	kinds := []func() float64{
		func() float64 { return float64(r.IntN(2*side+1) - side) },
		func() float64 { return edges[r.IntN(len(edges))] },
		func() float64 { return anyCoordinate(r, -100, 99) },
		func() float64 { return math.Ldexp(float64(r.IntN(5)-2), r.IntN(190)-99) },
		func() float64 { return 1 + float64(r.IntN(4))*0x1p-52 },
		func() float64 { return 3 },
	}
	x, y := kinds[r.IntN(len(kinds))], kinds[r.IntN(len(kinds))]
	for i := range l {
		if l[i] = at(x(), y()); i > 0 && r.IntN(3) == 0 {
			l[i] = l[r.IntN(i)]
		}
		l[i] = at(turnedNought(r, l[i].X), turnedNought(r, l[i].Y))
	}
	return l
}

func turnedNought(r *rand.Rand, x float64) float64 {
	if x == 0 && r.IntN(2) == 0 {
		return minusZero()
	}
	return x
}
