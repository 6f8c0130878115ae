package mesh

import (
	"maps"
	"slices"

	"trivet/api"
)

// ground is what a mesh has: its points, for each the triangles around it, for
// each directed edge that is there the place of its triangle among those around
// its first point, and the fixed edges' markers. (The triangles stand around
// their points so that Spokes need not go over all edges.)
type ground struct {
	points []api.Point
	around [][]wedge
	places map[[2]int]int
	fixed  map[[2]int]int
}

// wedge is a triangle as a corner of it sees it: the corners that follow.
type wedge struct{ next, last int }

func groundOf(points []api.Point) *ground {
	g := &ground{
		points: slices.Clone(points),
		around: make([][]wedge, len(points)),
		places: map[[2]int]int{},
		fixed:  map[[2]int]int{},
	}
	for i, p := range points {
		g.points[i] = plain(p)
	}
	return g
}

func (g *ground) copy() *ground {
	c := &ground{
		points: slices.Clone(g.points),
		around: make([][]wedge, len(g.around)),
		places: maps.Clone(g.places),
		fixed:  maps.Clone(g.fixed),
	}
	for a, fan := range g.around {
		c.around[a] = slices.Clone(fan)
	}
	return c
}

func (g *ground) add(p api.Point) int {
	g.points = append(g.points, plain(p))
	g.around = append(g.around, nil)
	return len(g.points) - 1
}

// plain is a point without a -0, which is 0.
func plain(p api.Point) api.Point {
	if p.X == 0 {
		p.X = 0
	}
	if p.Y == 0 {
		p.Y = 0
	}
	return p
}

// has tells whether all numbers are points'.
func (g *ground) has(numbers ...int) bool {
	for _, i := range numbers {
		if i < 0 || i >= len(g.points) {
			return false
		}
	}
	return true
}

// there tells whether a directed edge is there.
func (g *ground) there(a, b int) bool {
	_, there := g.places[[2]int{a, b}]
	return there
}

// lay puts a triangle among those around a corner of it.
func (g *ground) lay(a int, w wedge) {
	g.places[[2]int{a, w.next}] = len(g.around[a])
	g.around[a] = append(g.around[a], w)
}

// lift takes the triangle of a directed edge out of those around its first point.
// The last one of these comes to its place, so that no other one moves.
func (g *ground) lift(a, b int) {
	fan, place := g.around[a], g.places[[2]int{a, b}]
	end := len(fan) - 1
	fan[place] = fan[end]
	g.places[[2]int{a, fan[end].next}] = place
	delete(g.places, [2]int{a, b})
	g.around[a] = fan[:end]
}
