package mesh

import (
	"cmp"
	"slices"

	"trivet/api"
)

// Tris are all triangles.
func (m *Mesh) Tris() []api.Tri {
	return told(m.see(), func(l []api.Tri, a int, w wedge) []api.Tri {
		if a < w.next && a < w.last {
			l = append(l, api.Tri{a, w.next, w.last})
		}
		return l
	})
}

// Edges are all edges. (One that two triangles share is told by the triangle alone
// that has it as it leaves its lesser end.)
func (m *Mesh) Edges() [][2]int {
	g := m.see()
	return told(g, func(l [][2]int, a int, w wedge) [][2]int {
		if a < w.next {
			l = append(l, [2]int{a, w.next})
		}
		if a < w.last && !g.there(a, w.last) {
			l = append(l, [2]int{a, w.last})
		}
		return l
	})
}

// Border are all border edges.
func (m *Mesh) Border() [][2]int {
	g := m.see()
	return told(g, func(l [][2]int, a int, w wedge) [][2]int {
		if !g.there(w.next, a) {
			l = append(l, [2]int{a, w.next})
		}
		return l
	})
}

// Spokes are the points to which edges lead.
func (m *Mesh) Spokes(a int) []int {
	g := m.see()
	if !g.has(a) {
		return nil
	}
	var l []int
	for _, w := range g.around[a] {
		l = append(l, w.next)
		if !g.there(a, w.last) {
			l = append(l, w.last)
		}
	}
	slices.Sort(l)
	return l
}

// numbers are what is told as a row of points' numbers.
type numbers interface{ [2]int | api.Tri }

// told is what the triangles around each point tell, in order. What is told at a
// point has its number first, so that only this is left to be sorted.
func told[N numbers](g *ground, tell func(l []N, a int, w wedge) []N) []N {
	var l []N
	for a, fan := range g.around {
		from := len(l)
		for _, w := range fan {
			l = tell(l, a, w)
		}
		slices.SortFunc(l[from:], held[N])
	}
	return l
}

// held holds two rows of one kind against each other, number by number.
func held[N numbers](p, q N) int {
	for i := range len(p) {
		if c := cmp.Compare(p[i], q[i]); c != 0 {
			return c
		}
	}
	return 0
}
