package listfile

import (
	"math"
	"slices"

	"trivet/api"
	"trivet/digits"
	"trivet/lines"
)

// textOf is the text of a list. said are the numbers that the first line has
// behind how many things there are; amiss tells of a thing whether it may not be,
// and thing how its line is written, from behind its own number on.
func textOf[T any](l list[T], said []int, amiss func(T) bool, thing func(T) []string) (string, api.Errno) {
	if l.First != 0 && l.First != 1 || len(l.L) > api.MaxPoints || slices.ContainsFunc(l.L, amiss) {
		return "", api.ErrArg
	}
	head := []string{digits.Show(len(l.L))}
	for _, n := range said {
		head = append(head, digits.Show(n))
	}
	all := make([][]string, 0, 1+len(l.L))
	all = append(all, head)
	for place, next := range l.L {
		all = append(all, slices.Concat([]string{digits.Show(l.First + place)}, thing(next)))
	}
	return lines.Write(all)
}

// amissEdge says whether an edge, or a ray, may not be, whatever its marker.
func amissEdge(e Edge) bool {
	if e.B == none {
		return astray(e.A) || endless(e.Ray.X) || endless(e.Ray.Y)
	}
	return astray(e.A) || astray(e.B) || e.Ray != api.Point{}
}

// astray says whether nothing can have a place.
func astray(place int) bool { return place < 0 || place >= api.MaxPoints }

func neitherThereNorNone(place int) bool { return place != none && astray(place) }

// endless says whether a float is not finite.
func endless(x float64) bool { return math.IsNaN(x) || math.IsInf(x, 0) }

func edgeWords(e Edge, first int, marks bool) []string {
	words := []string{number(e.A, first), number(e.B, first)}
	if e.B == none {
		words = append(words, digits.Text(e.Ray.X), digits.Text(e.Ray.Y))
	}
	if marks {
		words = append(words, digits.Show(e.Mark))
	}
	return words
}

func nearWords(near [3]int, first int) []string {
	words := make([]string, 0, len(near))
	for _, place := range near {
		words = append(words, number(place, first))
	}
	return words
}

// number tells a place as files do, which count it from first on, but for none.
func number(place, first int) string {
	if place == none {
		return digits.Show(none)
	}
	return digits.Show(first + place)
}
