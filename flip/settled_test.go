package flip_test

import (
	"fmt"
	"slices"
	"testing"

	"trivet/api"
	"trivet/flip"
)

// roomy is a list with something behind its end that nobody may touch.
func roomy(l [][2]int) [][2]int {
	all := slices.Concat(l, [][2]int{{-7, -7}, {-7, -8}, {-7, -9}, {-8, -7}, {-9, -7}, {-9, -9}})
	return all[:len(l)]
}

// settles has a list settled that is handed in with room behind, and holds it, and
// that room, against what they were (R3).
func (x pair) settles(t *testing.T, l [][2]int) int {
	t.Helper()
	handed, whole := roomy(l), roomy(l)
	n, e := flip.Settle(x.m, handed)
	if e != api.OK {
		t.Fatalf("Settle of %v: %v", l, e)
	}
	if !slices.Equal(handed, l) || !slices.Equal(handed[:len(l)+6], whole[:len(l)+6]) {
		t.Fatalf("Settle changed the list %v to %v, %v behind it", l, handed, handed[:len(l)+6])
	}
	return n
}

// settled has a list settled, or all edges, if it is told so, and holds what comes
// of it against the promises: it is told how many were turned, and what there is
// behind it. Side by side says that no two triangles lie upon one another.
func (x pair) settled(t *testing.T, l [][2]int, all, sideBySide bool) (pair, int) {
	t.Helper()
	before := told(x.m)
	y := x.copy()
	n := 0
	if all {
		var e api.Errno
		if n, e = flip.All(y.m); e != api.OK {
			t.Fatal("All:", e)
		}
		l = x.w.edges()
	} else {
		n = y.settles(t, l)
	}
	y.w = x.w.with(y.m.Tris())
	y.agrees(t, before)
	y.sameGround(t, x)
	y.counted(t, x, l, n, sideBySide)
	y.ordered(t, x, l, all, sideBySide)
	if !told(x.m).same(before) {
		t.Fatal("a mesh was changed whose copy was settled")
	}
	return y, n
}

// sameGround is P17.4, but for what agrees holds.
func (y pair) sameGround(t *testing.T, x pair) {
	t.Helper()
	if y.m.Count() != x.m.Count() || !slices.Equal(y.w.corners(), x.w.corners()) || y.w.ground().Cmp(x.w.ground()) != 0 {
		t.Fatalf("%v came to %v", x.w.tris, y.w.tris)
	}
	for f := range x.w.fixes {
		if x.w.there(f[0], f[1]) && !y.w.there(f[0], f[1]) {
			t.Fatalf("the fixed edge %v was turned; %v came to %v", f, x.w.tris, y.w.tris)
		}
	}
}

// counted holds how many edges were turned against what can be seen of it: one at
// least for each that has gone, none if none had to be turned, and no more than
// P17.6 says.
func (y pair) counted(t *testing.T, x pair, l [][2]int, n int, sideBySide bool) {
	t.Helper()
	gone := 0
	for _, e := range x.w.edges() {
		if !y.w.there(e[0], e[1]) {
			gone++
		}
	}
	none := !slices.ContainsFunc(l, func(e [2]int) bool { return !x.w.inOrder(e[0], e[1]) })
	corners := len(x.w.corners())
	if n < gone || (n == 0) != none || (n == 0) != slices.Equal(x.w.tris, y.w.tris) || sideBySide && n > corners*corners {
		t.Fatalf("%d turned, %d gone, of %d corners; Settle of %v\nof %v came to %v", n, gone, corners, l, x.w.tris, y.w.tris)
	}
}

// ordered is P17.3.
func (y pair) ordered(t *testing.T, x pair, l [][2]int, all, sideBySide bool) {
	t.Helper()
	for _, e := range l {
		if !y.w.inOrder(e[0], e[1]) {
			t.Fatalf("behind Settle of %v, %v is not in order; %v came to %v", l, e, x.w.tris, y.w.tris)
		}
	}
	if all || sideBySide && listed(l, x.w.wrong()) {
		if wrong := y.w.wrong(); len(wrong) > 0 {
			t.Fatalf("%v are not in order; %v came to %v", wrong, x.w.tris, y.w.tris)
		}
	}
}

// listed tells whether a list has all of some edges, with their ends in either
// order.
func listed(l, edges [][2]int) bool {
	return !slices.ContainsFunc(edges, func(e [2]int) bool {
		return !slices.Contains(l, e) && !slices.Contains(l, [2]int{e[1], e[0]})
	})
}

// most is how many states are looked at, at most, of one mesh.
const most = 4000

// ends are all that may come of settling a list, by whichever edge is turned first:
// triangles, and how many edges were turned. Where there is too much to be looked
// at, it tells false.
func (w *model) ends(l [][2]int) (map[string]int, bool) {
	found, seen := map[string]int{}, map[string]bool{}
	var look func(w *model, watched [][2]int, turned int)
	look = func(w *model, watched [][2]int, turned int) {
		state := fmt.Sprint(w.tris, watched, turned)
		if seen[state] || len(seen) > most {
			return
		}
		seen[state] = true
		over := true
		for _, e := range watched {
			if !w.inOrder(e[0], e[1]) {
				over = false
				look(w.turned(e[0], e[1]), unlike(append(w.around(e[0], e[1]), watched...)), turned+1)
			}
		}
		if over {
			found[fmt.Sprint(w.tris, turned)]++
		}
	}
	look(w, unlike(l), 0)
	return found, len(seen) <= most
}

// unlike is a list of edges, each of them once, with its lesser end first, rising.
func unlike(l [][2]int) [][2]int {
	var u [][2]int
	for _, e := range l {
		u = append(u, undirected(e[0], e[1]))
	}
	slices.SortFunc(u, func(e, f [2]int) int { return slices.Compare(e[:], f[:]) })
	return slices.Compact(u)
}
