package polyfile

import (
	"math"

	"trivet/admit"
	"trivet/api"
	"trivet/digits"
)

// wrongOf is why a file whose points may be may not be itself.
func wrongOf(f File) api.Errno {
	switch {
	case f.Elsewhere && len(f.Nodes.Nodes) == 0:
		return api.ErrArg
	case max(len(f.Segs), len(f.Holes), len(f.Regions)) > api.MaxPoints:
		return api.ErrFull
	}
	for _, seg := range f.Segs {
		switch {
		case astray(f, seg.A) || astray(f, seg.B):
			return api.ErrIndex
		case seg.Mark != 0 && !f.Marks:
			return api.ErrArg
		}
	}
	for _, hole := range f.Holes {
		if !admit.May(hole) {
			return api.ErrRange
		}
	}
	for _, region := range f.Regions {
		switch {
		case !admit.May(region.P):
			return api.ErrRange
		case endless(region.Attr) || endless(region.Area):
			return api.ErrArg
		}
	}
	return api.OK
}

// astray says whether there is no node at a place.
func astray(f File, place int) bool { return place < 0 || place >= len(f.Nodes.Nodes) }

// endless says whether a float is not finite.
func endless(x float64) bool { return math.IsNaN(x) || math.IsInf(x, 0) }

func segmentLines(f File) [][]string {
	marks := "0"
	if f.Marks {
		marks = "1"
	}
	l := [][]string{{digits.Show(len(f.Segs)), marks}}
	for i, seg := range f.Segs {
		words := []string{number(f, i), number(f, seg.A), number(f, seg.B)}
		if f.Marks {
			words = append(words, digits.Show(seg.Mark))
		}
		l = append(l, words)
	}
	return l
}

func holeLines(f File) [][]string {
	l := [][]string{{digits.Show(len(f.Holes))}}
	for i, hole := range f.Holes {
		l = append(l, []string{number(f, i), digits.Text(hole.X), digits.Text(hole.Y)})
	}
	return l
}

// regionLines are none, if there are no regions.
func regionLines(f File) [][]string {
	if len(f.Regions) == 0 {
		return nil
	}
	l := [][]string{{digits.Show(len(f.Regions))}}
	for i, region := range f.Regions {
		words := []string{number(f, i)}
		for _, x := range []float64{region.P.X, region.P.Y, region.Attr, region.Area} {
			words = append(words, digits.Text(x))
		}
		l = append(l, words)
	}
	return l
}

// number tells a place as files do.
func number(f File, place int) string { return digits.Show(first(f) + place) }
