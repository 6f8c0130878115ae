package walk

import (
	"cmp"
	"slices"

	"trivet/admit"
	"trivet/api"
	"trivet/mesh"
	"trivet/orient"
)

// Across are the edges between two points. All of the mesh are asked, since
// triangles that the way does not come to may be upon it all the same.
func Across(m *mesh.Mesh, a, b int) ([][2]int, api.Errno) {
	from, to, wrong := ends(m, a, b)
	if wrong != api.OK {
		return nil, wrong
	}
	return slices.DeleteFunc(m.Edges(), func(e [2]int) bool {
		return !orient.Cross(from, to, pointOf(m, e[0]), pointOf(m, e[1]))
	}), api.OK
}

// Through are the corners between two points. On one line the order of points is
// that in which they come, from one end or from the other.
func Through(m *mesh.Mesh, a, b int) ([]int, api.Errno) {
	from, to, wrong := ends(m, a, b)
	if wrong != api.OK {
		return nil, wrong
	}
	var l []int
	for i := range m.Len() {
		p := pointOf(m, i)
		if p != from && p != to && orient.On(from, to, p) && len(m.Spokes(i)) > 0 {
			l = append(l, i)
		}
	}
	rising := admit.Cmp(to, from)
	slices.SortFunc(l, func(i, j int) int {
		return cmp.Or(rising*admit.Cmp(pointOf(m, i), pointOf(m, j)), cmp.Compare(i, j))
	})
	return l, api.OK
}

// ends are the points of two numbers.
func ends(m *mesh.Mesh, a, b int) (from, to api.Point, wrong api.Errno) {
	if m == nil {
		return from, to, api.ErrNil
	}
	from, there := m.Point(a)
	to, thereToo := m.Point(b)
	if !there || !thereToo {
		return api.Point{}, api.Point{}, api.ErrIndex
	}
	return from, to, api.OK
}
