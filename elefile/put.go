package elefile

import (
	"math"
	"slices"

	"trivet/api"
	"trivet/digits"
)

// mayBe says whether a file may be.
func mayBe(f File) bool {
	amiss := func(row Row) bool {
		return len(row.T) != f.Corners || slices.ContainsFunc(row.T, astray) ||
			len(row.A) != f.Attrs || slices.ContainsFunc(row.A, endless)
	}
	return (f.First == 0 || f.First == 1) && (f.Corners == 3 || f.Corners == 6) &&
		f.Attrs >= 0 && f.Attrs <= api.MaxAttrs &&
		len(f.L) <= api.MaxPoints && !slices.ContainsFunc(f.L, amiss)
}

// astray says whether a corner's number is none.
func astray(n int) bool { return n < 0 || n >= api.MaxPoints }

// endless says whether a float is not finite.
func endless(x float64) bool { return math.IsNaN(x) || math.IsInf(x, 0) }

// wordsOf is the line of the triangle at a place.
func wordsOf(f File, place int) []string {
	row := f.L[place]
	words := make([]string, 0, 1+f.Corners+f.Attrs)
	words = append(words, digits.Show(f.First+place))
	for _, n := range row.T {
		words = append(words, digits.Show(f.First+n))
	}
	for _, x := range row.A {
		words = append(words, digits.Text(x))
	}
	return words
}
