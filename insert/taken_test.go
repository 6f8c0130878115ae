package insert_test

import (
	"fmt"
	"slices"
	"testing"

	"trivet/api"
	"trivet/insert"
	"trivet/walk"
)

// takes takes a point into a copy of a mesh, and holds what comes of it against a
// plain look at the triangles: the place that walk.Find tells, what is answered, which
// triangles go and come there, and what may come of turning edges behind that.
func (x pair) takes(t *testing.T, p api.Point, seed uint64) (pair, api.Errno) {
	t.Helper()
	place, e := walk.Find(x.m, p, seed)
	if e != api.OK || !slices.Contains(x.w.places(p), place) {
		t.Fatalf("Find of %x: %v, %v; want one of %v", p, place, e, x.w.places(p))
	}
	before := told(x.m)
	w, came, want := x.w.taken(p, place)
	y := x.copy()
	n, e := insert.Point(y.m, p, seed)
	if e != want {
		t.Fatalf("Point of %x, at %v: %v; want %v\npoints %x\ntriangles %v", p, place, e, want, x.w.points, x.w.tris)
	}
	if !told(x.m).same(before) {
		t.Fatal("a mesh was changed into whose copy a point was taken")
	}
	if want != api.OK {
		if n != 0 || !told(y.m).same(before) || y.m.Len() != len(x.w.points) {
			t.Fatalf("Point of %x was refused, with %d, and has changed %v to %v", p, n, before, told(y.m))
		}
		return x, want
	}
	if n != len(x.w.points) || !slices.Equal(y.m.Points(), w.points) {
		t.Fatalf("Point of %x: %d, and the points %x", p, n, y.m.Points())
	}
	y.w = w.with(y.m.Tris())
	y.sameFixes(t, w)
	y.settledOf(t, w, came)
	if place.Kind != api.Outside {
		y.grounded(t, x, place)
	}
	return y, api.OK
}

// sameFixes: just those that the taking leaves are fixed, with their markers.
func (y pair) sameFixes(t *testing.T, w *model) {
	t.Helper()
	got := map[[2]int]int{}
	for _, s := range y.m.Fixes() {
		got[[2]int{s.A, s.B}] = s.Mark
	}
	if fmt.Sprint(got) != fmt.Sprint(w.fixes) {
		t.Fatalf("fixed are %v; want %v", got, w.fixes)
	}
}

// sidesOf are the edges of triangles.
func sidesOf(tris []api.Tri) [][2]int {
	var l [][2]int
	for _, c := range tris {
		l = append(l, undirected(c[0], c[1]), undirected(c[1], c[2]), undirected(c[2], c[0]))
	}
	return unlike(l)
}

// settledOf holds a mesh against what it was when the triangles had come, and no edge
// was turned yet: nothing but edges was turned since; if no edge of those that came had
// to be, none was; now they are in order, and so are all, if all others were.
func (y pair) settledOf(t *testing.T, w *model, came []api.Tri) {
	t.Helper()
	l := sidesOf(came)
	none := !slices.ContainsFunc(l, func(e [2]int) bool { return !w.inOrder(e[0], e[1]) })
	if none != slices.Equal(y.w.tris, w.tris) {
		t.Fatalf("an edge of %v had to be turned: %v; %v came to %v", l, !none, w.tris, y.w.tris)
	}
	if len(y.w.tris) != len(w.tris) || !slices.Equal(y.m.Border(), w.border()) || !slices.Equal(y.w.corners(), w.corners()) || y.w.ground().Cmp(w.ground()) != 0 {
		t.Fatalf("other ground than that of %v: %v", w.tris, y.w.tris)
	}
	for f := range w.fixes {
		if w.there(f[0], f[1]) && !y.w.there(f[0], f[1]) {
			t.Fatalf("the fixed edge %v was turned: %v; there was %v", f, y.w.tris, w.tris)
		}
	}
	for _, e := range l {
		if !y.w.inOrder(e[0], e[1]) {
			t.Fatalf("%v is not in order; %v came to %v", e, w.tris, y.w.tris)
		}
	}
	if wrong := y.w.wrong(); len(wrong) > 0 && listed(l, w.wrong()) && w.sideBySide() {
		t.Fatalf("%v are not in order; %v came to %v", wrong, w.tris, y.w.tris)
	}
}

// grounded is P18.3.
func (y pair) grounded(t *testing.T, x pair, place walk.Place) {
	t.Helper()
	n := len(x.w.points)
	more, border := 2, x.w.border()
	if _, _, shared := x.w.shared(place.A, place.B); place.Kind == api.OnEdge && !shared {
		more = 1
		for i, e := range border {
			if undirected(e[0], e[1]) == [2]int{place.A, place.B} {
				border = append(slices.Delete(border, i, i+1), [2]int{e[0], n}, [2]int{n, e[1]})
				break
			}
		}
		slices.SortFunc(border, func(e, f [2]int) int { return slices.Compare(e[:], f[:]) })
	}
	if y.m.Count() != x.m.Count()+more || !slices.Equal(y.m.Border(), border) || y.w.ground().Cmp(x.w.ground()) != 0 {
		t.Fatalf("%d triangles came to %d; the border is %v; want %v", x.m.Count(), y.m.Count(), y.m.Border(), border)
	}
}

// listed tells whether a list has all of some edges.
func listed(l, edges [][2]int) bool {
	return !slices.ContainsFunc(edges, func(e [2]int) bool { return !slices.Contains(l, e) })
}

// unlike is a list of edges, each of them once, rising.
func unlike(l [][2]int) [][2]int {
	slices.SortFunc(l, func(e, f [2]int) int { return slices.Compare(e[:], f[:]) })
	return slices.Compact(l)
}

// sideBySide tells whether no two triangles lie upon one another: all of one lies
// beyond the line of some edge of the other one, then.
func (w *model) sideBySide() bool {
	for i, s := range w.tris {
		for _, u := range w.tris[:i] {
			if !w.apart(s, u) && !w.apart(u, s) {
				return false
			}
		}
	}
	return true
}

// apart tells whether all of u lies right of some edge of s, or on its line.
func (w *model) apart(s, u api.Tri) bool {
	for i := range s {
		a, b := s[i], s[(i+1)%3]
		if w.side(a, b, u[0]) <= 0 && w.side(a, b, u[1]) <= 0 && w.side(a, b, u[2]) <= 0 {
			return true
		}
	}
	return false
}

// isTriangulation tells whether the triangles are one of their corners: if the border
// goes along the convex hull, from corner to corner, each point within is in just one
// triangle, and no corner can lie inside one, or inside an edge.
func (w *model) isTriangulation() bool {
	corners := w.corners()
	for _, e := range w.border() {
		for _, c := range corners {
			a, b := w.spots[e[0]], w.spots[e[1]]
			if w.side(e[0], e[1], c) < 0 || between(a, b, w.spots[c]) {
				return false
			}
		}
	}
	for i, c := range corners {
		for _, d := range corners[:i] {
			if w.spots[c].alike(w.spots[d]) {
				return false
			}
		}
	}
	return len(w.tris) > 0
}

// most is how many states are looked at, at most, of one mesh.
const most = 3000

// ends are all that may come of settling a list, by whichever edge is turned first.
// Where there is too much to be looked at, it tells false.
func (w *model) ends(l [][2]int) (map[string]bool, bool) {
	found, seen := map[string]bool{}, map[string]bool{}
	var look func(w *model, watched [][2]int)
	look = func(w *model, watched [][2]int) {
		state := fmt.Sprint(w.tris, watched)
		if seen[state] || len(seen) > most {
			return
		}
		seen[state] = true
		over := true
		for _, e := range watched {
			if w.inOrder(e[0], e[1]) {
				continue
			}
			over = false
			c, d, _ := w.shared(e[0], e[1])
			around := [][2]int{undirected(e[0], c), undirected(c, e[1]), undirected(e[1], d), undirected(d, e[0])}
			look(w.turned(e[0], e[1]), unlike(append(around, watched...)))
		}
		if over {
			found[fmt.Sprint(w.tris)] = true
		}
	}
	look(w, unlike(l))
	return found, len(seen) <= most
}

// turned is the mesh behind an edge that is turned.
func (w *model) turned(a, b int) *model {
	c, d, _ := w.shared(a, b)
	goes := ownOrder([]api.Tri{{a, b, c}, {b, a, d}})
	l := slices.DeleteFunc(slices.Clone(w.tris), func(t api.Tri) bool { return slices.Contains(goes, t) })
	return w.with(append(l, api.Tri{d, b, c}, api.Tri{a, d, c}))
}
