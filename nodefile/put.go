package nodefile

import (
	"math"
	"slices"

	"trivet/admit"
	"trivet/api"
	"trivet/digits"
)

// Put are a file's lines.
func Put(f File) ([][]string, api.Errno) {
	if wrong := wrongOf(f); wrong != api.OK {
		return nil, wrong
	}
	l := make([][]string, 0, 1+len(f.Nodes))
	l = append(l, []string{digits.Show(len(f.Nodes)), "2", digits.Show(f.Attrs), bit(f.Marks)})
	for place := range f.Nodes {
		l = append(l, wordsOf(f, place))
	}
	return l, api.OK
}

func bit(yes bool) string {
	if yes {
		return "1"
	}
	return "0"
}

// wordsOf is the line of the node at a place.
func wordsOf(f File, place int) []string {
	node := f.Nodes[place]
	words := make([]string, 0, width(f))
	words = append(words, digits.Show(number(f, place)), digits.Text(node.P.X), digits.Text(node.P.Y))
	for _, x := range node.Attr {
		words = append(words, digits.Text(x))
	}
	if f.Marks {
		words = append(words, digits.Show(node.Mark))
	}
	return words
}

// wrongOf is why a file may not be. All nodes are asked about all else ahead of
// any point, since ErrArg comes first whichever node it is of.
func wrongOf(f File) api.Errno {
	amiss := func(node api.Node) bool {
		return len(node.Attr) != f.Attrs || slices.ContainsFunc(node.Attr, endless) || node.Mark != 0 && !f.Marks
	}
	switch {
	case len(f.Nodes) > api.MaxPoints:
		return api.ErrFull
	case f.Attrs < 0 || f.Attrs > api.MaxAttrs || f.Zero && len(f.Nodes) == 0:
		return api.ErrArg
	case slices.ContainsFunc(f.Nodes, amiss):
		return api.ErrArg
	case slices.ContainsFunc(f.Nodes, astray):
		return api.ErrRange
	}
	return api.OK
}

// endless says whether a float is not finite.
func endless(x float64) bool { return math.IsNaN(x) || math.IsInf(x, 0) }

func astray(node api.Node) bool { return !admit.May(node.P) }
