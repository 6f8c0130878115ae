// Package grid tells which points may be (DOC.md, Words). The layers that
// reckon with coordinates share it, since the lowest of them stand below the
// one that hands the answer out.
package grid

import (
	"math"

	"trivet/api"
)

// reach is the greatest magnitude of a coordinate, and how many of its steps
// are 1.
const reach = 1 << api.Grid

// Has tells whether all points may be.
func Has(points ...api.Point) bool {
	for _, p := range points {
		if !stands(p.X) || !stands(p.Y) {
			return false
		}
	}
	return true
}

// stands asks for yes, and not for no, since what is no number is answered no
// by every comparison. No bit is lost by counting the steps.
func stands(x float64) bool {
	steps := x * reach
	return math.Abs(x) <= reach && math.Trunc(steps) == steps
}
