package admit_test

import (
	"math"
	"slices"
	"testing"

	"trivet/admit"
	"trivet/api"
)

// strewn are n points of a diagonal, in no order; each stands there twice, far
// apart.
func strewn(n int) []api.Point {
	l := make([]api.Point, n)
	for i := range l {
		k := float64(i * 7919 % (n / 2))
		l[i] = at(k-100, 3*k)
	}
	return l
}

// As many points as there may be, and one more; wrong ones among them.
func TestMaxPoints(t *testing.T) {
	l := strewn(api.MaxPoints + 1)
	most := l[:api.MaxPoints]
	if place, err := admit.All(most); place != 0 || err != api.OK {
		t.Error("All of MaxPoints points:", place, err)
	}
	orderAsked(t, most)
	manyTwinsAsked(t, most)
	if !admit.Flat(most) {
		t.Error("a diagonal's points are flat")
	}
	if got := told(l); !got.same(answers{err: api.ErrFull}) {
		t.Error("of one point more there is something told:", got.place, got.err, len(got.order), len(got.twins), len(got.unlike), got.flat)
	}
	most[api.MaxPoints-1].Y++
	if admit.Flat(most) {
		t.Error("the last of MaxPoints points lies off the line")
	}
	most[api.MaxPoints-1].X = math.NaN()
	if got := told(most); !got.same(answers{place: api.MaxPoints - 1, err: api.ErrRange}) {
		t.Error("the last of MaxPoints points may not be:", got.place, got.err, len(got.order), len(got.twins), len(got.unlike), got.flat)
	}
	l[0].X = math.Inf(1)
	if got := told(l); !got.same(answers{err: api.ErrFull}) {
		t.Error("too many points, wrong ones among them:", got.place, got.err, len(got.order), len(got.twins), len(got.unlike), got.flat)
	}
}

// manyTwinsAsked is for strewn points: each one's twin is half a list ahead.
func manyTwinsAsked(t *testing.T, l []api.Point) {
	t.Helper()
	half := len(l) / 2
	for i, twin := range admit.Twins(l) {
		if twin != i%half {
			t.Fatalf("the twin of %d is %d", i, twin)
		}
	}
	unlike := admit.Unlike(l)
	if len(unlike) != half {
		t.Fatalf("%d points are unlike, not %d", len(unlike), half)
	}
	for k, i := range unlike {
		if i >= half || l[i].X != float64(k)-100 {
			t.Fatalf("the unlike point at place %d has the number %d", k, i)
		}
	}
}

// Two alike points with many others between them, as 0 and as -0.
func TestTwinsFarApart(t *testing.T) {
	const n = 1 << 16
	l := make([]api.Point, n)
	for i := range l {
		l[i] = at(float64(i*7919%n), 5)
	}
	l[0] = at(0, minusZero())
	l[n-1] = at(minusZero(), 0)
	twins, unlike := admit.Twins(l), admit.Unlike(l)
	if twins[n-1] != 0 || len(unlike) != n-1 || unlike[0] != 0 || slices.Contains(unlike, n-1) {
		t.Error("the last point is alike the first one:", twins[n-1], len(unlike), unlike[0])
	}
	orderAsked(t, l)
	if order := admit.Order(l); order[0] != 0 || order[1] != n-1 {
		t.Error("the first two in their order:", order[:2])
	}
}

// All points alike, as many as there may be.
func TestAllAlike(t *testing.T) {
	l := slices.Repeat([]api.Point{at(-2, 0x1p-100)}, api.MaxPoints)
	orderAsked(t, l)
	if unlike := admit.Unlike(l); !slices.Equal(unlike, []int{0}) {
		t.Error("unlike points, where all are alike:", len(unlike))
	}
	if slices.Max(admit.Twins(l)) != 0 || !admit.Flat(l) {
		t.Error("all points alike:", slices.Max(admit.Twins(l)), admit.Flat(l))
	}
}
