package switches

import (
	"strings"

	"trivet/api"
	"trivet/digits"
)

const (
	wholeBytes = "0123456789"      // what a number behind S is made of
	floatBytes = wholeBytes + "b-" // what one behind q and a is made of
)

// row is what has been read of a row. Both builders are noted, since it is told
// behind all else that they do not go together.
type row struct {
	api.Plan
	grow, sweep bool
}

// act is what a letter does: it takes what belongs to it off what is left behind
// it, tells what is left then, and whether the switch may stand there.
type act func(left string) (string, bool)

// letters are what each letter does to a row.
func (r *row) letters() map[byte]act {
	return map[byte]act{
		'p': once(&r.Poly), 'r': once(&r.Again), 'q': r.angle, 'a': r.area,
		'D': once(&r.Delaunay), 'c': once(&r.Convex), 'O': once(&r.NoHoles),
		'Y': once(&r.Whole), 'S': r.steiner, 'i': once(&r.grow), 'F': once(&r.sweep),
		'l': once(&r.Upright), 'e': once(&r.Edges), 'n': once(&r.Near),
		'v': once(&r.Voronoi), 'z': once(&r.Zero), 'o': r.second,
		'j': once(&r.Drop), 'A': once(&r.Regions),
	}
}

// once is what a letter without a number does. That its flag is set already tells
// that it has stood in the row.
func once(flag *bool) act {
	return func(left string) (string, bool) {
		if *flag {
			return "", false
		}
		*flag = true
		return left, true
	}
}

func (r *row) angle(left string) (string, bool) {
	word, left := cut(left, floatBytes)
	r.Angle = usualAngle
	if word != "" {
		x, wrong := digits.Float(word)
		if wrong != api.OK {
			return "", false
		}
		r.Angle = x
	}
	return once(&r.Quality)(left)
}

// area is what both switches do that have the letter a.
func (r *row) area(left string) (string, bool) {
	word, left := cut(left, floatBytes)
	if word == "" {
		return once(&r.Each)(left)
	}
	x, wrong := digits.Float(word)
	if wrong != api.OK {
		return "", false
	}
	r.Area = x
	return once(&r.Areas)(left)
}

func (r *row) steiner(left string) (string, bool) {
	word, left := cut(left, wholeBytes)
	n, wrong := digits.Int(word)
	if wrong != api.OK || r.Steiner != unbounded {
		return "", false
	}
	r.Steiner = n
	return left, true
}

func (r *row) second(left string) (string, bool) {
	left, two := strings.CutPrefix(left, "2")
	if !two {
		return "", false
	}
	return once(&r.Second)(left)
}

// build says who builds, now that the whole row is known.
func (r *row) build() api.Errno {
	switch {
	case r.grow && r.sweep:
		return api.ErrSwitch
	case r.grow:
		r.Build = api.Grow
	case r.sweep:
		r.Build = api.Sweep
	}
	return api.OK
}

// cut takes off what is left all bytes ahead that are among those named.
func cut(left, among string) (word, rest string) {
	rest = strings.TrimLeft(left, among)
	return left[:len(left)-len(rest)], rest
}
