package listfile

import (
	"slices"

	"trivet/api"
	"trivet/digits"
	"trivet/lines"
)

// list are things of any kind, and the number of the first one.
type list[T any] struct {
	First int
	L     []T
}

// listOf is the list of a text. head is asked about the numbers that the first
// line has behind how many things there are; thing is how a line is read, from
// behind its own number on. No more room is made than there are lines, since the
// first one can say any number.
func listOf[T any](text string, head func(said []int) bool, thing func(words []string, first int) (T, api.Errno)) (list[T], int, api.Errno) {
	all, at, wrong := lines.Read(text)
	if wrong != api.OK {
		return list[T]{}, at, wrong
	}
	if len(all) == 0 {
		return list[T]{}, 0, api.ErrForm
	}
	count, wrong := countOf(all[0].Words, head)
	if wrong != api.OK {
		return list[T]{}, all[0].No, wrong
	}
	left := all[1:]
	l := list[T]{First: firstOf(left), L: make([]T, 0, min(count, len(left)))}
	for i, line := range left {
		// A whole number has one text alone, so that texts can be held against each other.
		if i == count || line.Words[0] != digits.Show(l.First+i) {
			return list[T]{}, line.No, api.ErrForm
		}
		next, wrong := thing(line.Words[1:], l.First)
		if wrong != api.OK {
			return list[T]{}, line.No, wrong
		}
		l.L = append(l.L, next)
	}
	if len(left) < count {
		return list[T]{}, 0, api.ErrForm
	}
	return l, 0, api.OK
}

// countOf is how many things a first line says that there are.
func countOf(words []string, head func(said []int) bool) (int, api.Errno) {
	said, right := wholes(words)
	switch {
	case !right || said[0] < 0 || !head(said[1:]):
		return 0, api.ErrForm
	case said[0] > api.MaxPoints:
		return 0, api.ErrFull
	}
	return said[0], api.OK
}

// firstOf is the number from which on the things of lines are counted. One that
// may not be is left to be refused as one that is not 0.
func firstOf(left []lines.Line) int {
	if len(left) > 0 && left[0].Words[0] == "1" {
		return 1
	}
	return 0
}

// wholes are words' whole numbers, if all of them are such.
func wholes(words []string) ([]int, bool) {
	numbers := make([]int, 0, len(words))
	for _, word := range words {
		n, wrong := digits.Int(word)
		if wrong != api.OK {
			return nil, false
		}
		numbers = append(numbers, n)
	}
	return numbers, true
}

// edgeOf is an edge, or a ray.
func edgeOf(words []string, first int, marks bool) (Edge, api.Errno) {
	numbers, ray, right := partsOf(words, marks)
	if !right {
		return Edge{}, api.ErrForm
	}
	e := Edge{B: none}
	if marks {
		e.Mark = numbers[2]
	}
	var wrong api.Errno
	if e.A, wrong = placeOf(numbers[0], first); wrong != api.OK {
		return Edge{}, wrong
	}
	if len(ray) > 0 {
		e.Ray, wrong = pointOf(ray[0], ray[1])
	} else {
		e.B, wrong = placeOf(numbers[1], first)
	}
	if wrong != api.OK {
		return Edge{}, wrong
	}
	return e, api.OK
}

// partsOf are an edge's whole numbers, and the texts of a ray's two floats, which
// no other edge has. They are told apart, since the form of all whole numbers,
// the marker's too, comes ahead of what any word says.
func partsOf(words []string, marks bool) ([]int, []string, bool) {
	floats, markers := 0, 0
	if len(words) > 1 && words[1] == digits.Show(none) {
		floats = 2
	}
	if marks {
		markers = 1
	}
	if len(words) != 2+floats+markers {
		return nil, nil, false
	}
	numbers, right := wholes(slices.Concat(words[:2], words[2+floats:]))
	return numbers, words[2 : 2+floats], right
}

// placeOf is the place from 0 on of what has a number from first on.
func placeOf(n, first int) (int, api.Errno) {
	if n < first || n >= first+api.MaxPoints {
		return 0, api.ErrIndex
	}
	return n - first, api.OK
}

func pointOf(xText, yText string) (api.Point, api.Errno) {
	x, wrong := digits.Float(xText)
	if wrong != api.OK {
		return api.Point{}, wrong
	}
	y, wrong := digits.Float(yText)
	if wrong != api.OK {
		return api.Point{}, wrong
	}
	return api.Point{X: x, Y: y}, api.OK
}

// nearOf are a triangle's neighbours.
func nearOf(words []string, first int) ([3]int, api.Errno) {
	numbers, right := wholes(words)
	if !right || len(numbers) != 3 {
		return [3]int{}, api.ErrForm
	}
	near := [3]int{none, none, none}
	for i, n := range numbers {
		if n == none {
			continue
		}
		place, wrong := placeOf(n, first)
		if wrong != api.OK {
			return [3]int{}, wrong
		}
		near[i] = place
	}
	return near, api.OK
}

// areaOf is a triangle's area.
func areaOf(words []string, _ int) (float64, api.Errno) {
	if len(words) != 1 {
		return 0, api.ErrForm
	}
	return digits.Float(words[0])
}
