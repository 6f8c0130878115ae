package orient_test

import (
	"math"
	"math/rand/v2"
	"testing"

	"trivet/api"
	"trivet/orient"
)

func left(a, b, c api.Point) bool { return orient.Sign(a, b, c) > 0 }

// P4.5, on points that stand close to one line.
func TestWithinAndAround(t *testing.T) {
	r := rand.New(rand.NewPCG(4, 7))
	within, around := 0, 0
	for range 100000 {
		a, b := at(r.Float64(), r.Float64()), at(r.Float64(), r.Float64())
		draw := func() api.Point { return nearLine(r, a, b) }
		if r.IntN(2) == 0 {
			draw = func() api.Point { return at(float64(r.IntN(7)), float64(r.IntN(7))) }
		}
		p, q, s, u, v := draw(), draw(), draw(), draw(), draw()
		if left(v, q, u) && left(p, v, u) && left(p, q, v) {
			within++
			if !left(p, q, u) {
				t.Fatalf("%x is within, but %x, %x, %x do not turn left", v, p, q, u)
			}
		}
		if left(v, s, p) && left(v, s, q) && left(v, s, u) && left(v, p, q) && left(v, q, u) {
			around++
			if !left(v, p, u) {
				t.Fatalf("%x, %x, %x around %x do not turn left", p, q, u, v)
			}
		}
	}
	if within < 100 || around < 100 {
		t.Error("too few of them:", within, around)
	}
}

// answers are all that is told of four points.
type answers struct {
	signs [4]int
	on    [4]bool
	cross bool
}

func allAnswers(l [4]api.Point) answers {
	var all answers
	for i := range l {
		a, b, c := l[(i+1)%4], l[(i+2)%4], l[(i+3)%4]
		all.signs[i] = orient.Sign(a, b, c)
		all.on[i] = orient.On(a, b, c)
	}
	all.cross = orient.Cross(l[0], l[1], l[2], l[3])
	return all
}

// changed is each point put through a change.
func changed(l [4]api.Point, change func(p api.Point) api.Point) [4]api.Point {
	for i := range l {
		l[i] = change(l[i])
	}
	return l
}

// fourPoints have at most 30 bits, so that moving them by whole steps below 2^22
// rounds nothing; often three of them nearly lie, or lie, on a line.
func fourPoints(r *rand.Rand) [4]api.Point {
	grain := math.Ldexp(1, -r.IntN(31))
	size := 1 << (1 + r.IntN(29))
	coordinate := func() float64 { return float64(r.IntN(2*size+1)-size) * grain }
	var l [4]api.Point
	for i := range l {
		l[i] = at(coordinate(), coordinate())
	}
	if r.IntN(2) == 0 {
		l[2] = at(2*l[1].X-l[0].X, 2*l[1].Y-l[0].Y)
		l[3].X = l[1].X
	}
	return l
}

// P4.6: moved, made larger and smaller, mirrored.
func TestMoved(t *testing.T) {
	r := rand.New(rand.NewPCG(4, 8))
	for range 3000 {
		l := fourPoints(r)
		want := allAnswers(l)
		dx, dy := float64(r.IntN(1<<23)-1<<22), float64(r.IntN(1<<23)-1<<22)
		size := math.Ldexp(1, r.IntN(138)-69)
		same := map[string]func(p api.Point) api.Point{
			"moved":        func(p api.Point) api.Point { return at(p.X+dx, p.Y+dy) },
			"made larger":  func(p api.Point) api.Point { return at(p.X*size, p.Y*size) },
			"turned about": func(p api.Point) api.Point { return at(-p.X, -p.Y) },
		}
		for name, change := range same {
			if got := allAnswers(changed(l, change)); got != want {
				t.Fatalf("%x, %s by %x, %x or %x: %v, want %v", l, name, dx, dy, size, got, want)
			}
		}
		for i := range want.signs {
			want.signs[i] = -want.signs[i]
		}
		mirrored := map[string]func(p api.Point) api.Point{
			"in X":            func(p api.Point) api.Point { return at(-p.X, p.Y) },
			"in Y":            func(p api.Point) api.Point { return at(p.X, -p.Y) },
			"in the diagonal": func(p api.Point) api.Point { return at(p.Y, p.X) },
		}
		for name, change := range mirrored {
			if got := allAnswers(changed(l, change)); got != want {
				t.Fatalf("%x, mirrored %s: %v, want %v", l, name, got, want)
			}
		}
	}
}

// As large and as small as the points may be.
func TestMadeAsLargeAsMayBe(t *testing.T) {
	r := rand.New(rand.NewPCG(4, 9))
	for range 1000 {
		var l [4]api.Point
		for i := range l {
			l[i] = at(float64(r.IntN(2049)-1024), float64(r.IntN(2049)-1024))
		}
		l[3] = at(-l[0].X, l[1].Y)
		want := allAnswers(l)
		for _, size := range []float64{0x1p-100, 0x1p-99, 0x1p-48, 0x1p89, 0x1p90} {
			got := allAnswers(changed(l, func(p api.Point) api.Point { return at(p.X*size, p.Y*size) }))
			if got != want {
				t.Fatalf("%v made %x times as large: %v, want %v", l, size, got, want)
			}
		}
	}
}
