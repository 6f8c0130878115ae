package flip

import (
	"trivet/api"
	"trivet/circle"
	"trivet/mesh"
	"trivet/orient"
)

// kite is an edge {a, b} that two triangles of a mesh share: (a, b, c) and (b, a, d).
type kite struct {
	m          *mesh.Mesh
	a, b, c, d int
}

// kiteOf is that of an edge, if it is shared.
func kiteOf(m *mesh.Mesh, a, b int) (kite, bool) {
	c, left := m.Apex(a, b)
	d, right := m.Apex(b, a)
	return kite{m, a, b, c, d}, left && right
}

// points are those of a, b, c and d.
func (k kite) points() (a, b, c, d api.Point) {
	var l [4]api.Point
	for i, number := range [4]int{k.a, k.b, k.c, k.d} {
		l[i], _ = k.m.Point(number)
	}
	return l[0], l[1], l[2], l[3]
}

// sides are the four edges around.
func (k kite) sides() [4][2]int {
	return [4][2]int{{k.a, k.d}, {k.d, k.b}, {k.b, k.c}, {k.c, k.a}}
}

// fixed tells whether the edge is.
func (k kite) fixed() bool {
	_, fixed := k.m.Fixed(k.a, k.b)
	return fixed
}

// crossed tells whether the edge that would come is there, one way or the other.
func (k kite) crossed() bool {
	_, there := k.m.Apex(k.c, k.d)
	_, turned := k.m.Apex(k.d, k.c)
	return there || turned
}

// convex tells whether the triangles that would come turn left.
func (k kite) convex() bool {
	a, b, c, d := k.points()
	return orient.Sign(c, d, b) > 0 && orient.Sign(d, c, a) > 0
}

// within tells whether d lies within the circle of (a, b, c). If so, the two are
// convex: c and d see one another through the circle, so between a and b.
func (k kite) within() bool {
	a, b, c, d := k.points()
	return circle.Within(a, b, c, d)
}

// may tells whether the edge may be turned.
func (k kite) may() bool { return !k.fixed() && !k.crossed() && k.convex() }

// turn turns the edge, which is known to be one that may be turned: so the mesh
// refuses nothing of it.
func (k kite) turn() {
	k.m.Kill(k.a, k.b, k.c)
	k.m.Kill(k.b, k.a, k.d)
	k.m.Make(k.d, k.b, k.c)
	k.m.Make(k.a, k.d, k.c)
}
