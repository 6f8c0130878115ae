package circle_test

import (
	"math"
	"math/rand/v2"
	"testing"

	"trivet/api"
	"trivet/circle"
	"trivet/orient"
)

// P5.4, of points for which floats suffice and of others.
func TestTurnedAbout(t *testing.T) {
	r := rand.New(rand.NewPCG(5, 8))
	for range 2000 {
		draw := func() api.Point { return nearCircle(r, at(0.25, -0.5), 3) }
		if r.IntN(2) == 0 {
			draw = func() api.Point { return anyPoint(r, -5, 5) }
		}
		l := [4]api.Point{draw(), draw(), draw(), draw()}
		s := circle.Sign(l[0], l[1], l[2], l[3])
		for i := range l {
			for j := range i {
				q := l
				q[i], q[j] = q[j], q[i]
				if got := circle.Sign(q[0], q[1], q[2], q[3]); got != -s {
					t.Fatalf("%x: %d; %d and %d changed about: %d", l, s, i, j, got)
				}
			}
		}
	}
}

func left(a, b, c api.Point) bool { return orient.Sign(a, b, c) > 0 }

// P5.5, of points that stand around, mostly close to one circle.
func TestOneOfTwo(t *testing.T) {
	r := rand.New(rand.NewPCG(5, 9))
	one, other, both := 0, 0, 0
	for n := range 50000 {
		draw := func() api.Point { return nearCircle(r, at(0.25, -0.5), 3) }
		if n%2 == 0 {
			draw = func() api.Point { return at(float64(r.IntN(6)), float64(r.IntN(6))) }
		}
		a, b, c, d := draw(), draw(), draw(), draw()
		if !left(a, b, c) || !left(a, c, d) || !left(b, c, d) || !left(a, b, d) {
			continue
		}
		is := circle.Within(a, b, c, d)
		if circle.Within(a, c, d, b) != is {
			t.Fatalf("%x, %x, %x, %x: d within: %v, b within: %v", a, b, c, d, is, !is)
		}
		round := circle.Sign(a, b, c, d) == 0
		across := !is && !round
		if circle.Within(b, c, d, a) != across || circle.Within(a, b, d, c) != across {
			t.Fatalf("%x, %x, %x, %x: d within: %v, on one circle: %v; a within: %v, c within: %v", a, b, c, d, is, round, circle.Within(b, c, d, a), circle.Within(a, b, d, c))
		}
		switch {
		case is:
			one++
		case round:
			both++
		default:
			other++
		}
	}
	if one < 1000 || other < 1000 || both < 100 {
		t.Error("too few of them:", one, other, both)
	}
}

// answers are all that is told of four points.
type answers struct {
	signs  [4]int
	within [4]bool
}

func allAnswers(l [4]api.Point) answers {
	var all answers
	for i := range l {
		a, b, c, d := l[i], l[(i+1)%4], l[(i+2)%4], l[(i+3)%4]
		all.signs[i] = circle.Sign(a, b, c, d)
		all.within[i] = circle.Within(a, b, c, d)
	}
	return all
}

// changed is each point put through a change.
func changed(l [4]api.Point, change func(p api.Point) api.Point) [4]api.Point {
	for i := range l {
		l[i] = change(l[i])
	}
	return l
}

// fourPoints have at most 30 bits, so that moving them by whole steps below 2^22
// rounds nothing; often they lie, or nearly lie, on a circle.
func fourPoints(r *rand.Rand) [4]api.Point {
	grain := math.Ldexp(1, -r.IntN(31))
	size := 1 << (2 + r.IntN(28))
	coordinate := func() float64 { return float64(r.IntN(size+1)-size/2) * grain }
	var l [4]api.Point
	for i := range l {
		l[i] = at(coordinate(), coordinate())
	}
	if r.IntN(2) == 0 {
		l[1] = at(-l[0].Y, l[0].X)
		l[2] = at(l[0].Y, l[0].X)
		l[3] = at(-l[0].X, l[0].Y+grain*float64(r.IntN(3)-1))
	}
	return l
}

// P5.6: moved, made larger and smaller, mirrored.
func TestMoved(t *testing.T) {
	r := rand.New(rand.NewPCG(5, 10))
	for range 1000 {
		l := fourPoints(r)
		want := allAnswers(l)
		dx, dy := float64(r.IntN(1<<23)-1<<22), float64(r.IntN(1<<23)-1<<22)
		size := math.Ldexp(1, r.IntN(138)-69)
		same := map[string]func(p api.Point) api.Point{
			"moved":               func(p api.Point) api.Point { return at(p.X+dx, p.Y+dy) },
			"made twice as large": func(p api.Point) api.Point { return at(2*p.X, 2*p.Y) },
			"made larger":         func(p api.Point) api.Point { return at(p.X*size, p.Y*size) },
			"turned about":        func(p api.Point) api.Point { return at(-p.X, -p.Y) },
		}
		for name, change := range same {
			if got := allAnswers(changed(l, change)); got != want {
				t.Fatalf("%x, %s by %x, %x or %x: %v, want %v", l, name, dx, dy, size, got, want)
			}
		}
		for i := range want.signs {
			want.signs[i] = -want.signs[i]
		}
		mirrored := map[string]func(p api.Point) api.Point{
			"in X":            func(p api.Point) api.Point { return at(-p.X, p.Y) },
			"in Y":            func(p api.Point) api.Point { return at(p.X, -p.Y) },
			"in the diagonal": func(p api.Point) api.Point { return at(p.Y, p.X) },
		}
		for name, change := range mirrored {
			if got := allAnswers(changed(l, change)); got != want {
				t.Fatalf("%x, mirrored %s: %v, want %v", l, name, got, want)
			}
		}
	}
}

// As large and as small as the points may be.
func TestMadeAsLargeAsMayBe(t *testing.T) {
	r := rand.New(rand.NewPCG(5, 11))
	for range 500 {
		var l [4]api.Point
		for i := range l {
			l[i] = at(float64(r.IntN(2049)-1024), float64(r.IntN(2049)-1024))
		}
		if r.IntN(2) == 0 {
			l[2], l[3] = at(l[0].X, l[1].Y), at(l[1].X, l[0].Y)
		}
		want := allAnswers(l)
		for _, size := range []float64{0x1p-100, 0x1p-99, 0x1p-48, 0x1p89, 0x1p90} {
			got := allAnswers(changed(l, func(p api.Point) api.Point { return at(p.X*size, p.Y*size) }))
			if got != want {
				t.Fatalf("%v made %x times as large: %v, want %v", l, size, got, want)
			}
		}
	}
}
