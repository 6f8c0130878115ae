package insert

import (
	"slices"

	"trivet/api"
	"trivet/mesh"
	"trivet/orient"
)

// seen are the border edges of which p lies right, in the border's order.
func seen(m *mesh.Mesh, p api.Point) [][2]int {
	return slices.DeleteFunc(m.Border(), func(e [2]int) bool {
		a, _ := m.Point(e[0])
		b, _ := m.Point(e[1])
		return orient.Sign(a, b, p) >= 0
	})
}

// mayAll tells whether a triangle may be made over each of the edges, with a point
// that is a corner of no other one. Over (a, b) comes (b, a, n), which has the edges
// (a, n) and (n, b): so no two may begin, or end, at the same corner, as they do
// where the border comes to a corner more than once.
func mayAll(edges [][2]int) bool {
	begun, ended := map[int]int{}, map[int]int{}
	for _, e := range edges {
		begun[e[0]]++
		ended[e[1]]++
		if begun[e[0]] > 1 || ended[e[1]] > 1 {
			return false
		}
	}
	return true
}
