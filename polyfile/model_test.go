package polyfile_test

import (
	"math"
	"math/big"
	"regexp"
	"slices"
	"strconv"
	"strings"
	"testing"

	"trivet/api"
	"trivet/lines"
	"trivet/nodefile"
	"trivet/polyfile"
)

var (
	wholeForm = regexp.MustCompile(`\A(0|-?[1-9][0-9]*)\z`)
	floatForm = regexp.MustCompile(`\A(0|-?[1-9][0-9]*)(b(0|-?[1-9][0-9]*))?\z`)
)

// modelInt is a whole number of R7, reckoned without bounds and then held
// against them.
func modelInt(word string) (int, bool) {
	if !wholeForm.MatchString(word) {
		return 0, false
	}
	n, _ := new(big.Int).SetString(word, 10)
	return int(n.Int64()), n.IsInt64()
}

// modelFloat reckons n times 2^e as a fraction.
func modelFloat(word string) (float64, api.Errno) {
	parts := floatForm.FindStringSubmatch(word)
	if parts == nil || len(word) > 400 {
		return 0, api.ErrForm
	}
	e := 0
	n, fits := modelInt(parts[1])
	if parts[3] != "" && fits {
		e, fits = modelInt(parts[3])
	}
	switch {
	case !fits:
		return 0, api.ErrForm
	case n == 0:
		return 0, api.OK
	case e > 3000 || e < -3000:
		return 0, api.ErrRange
	}
	power := new(big.Rat).SetInt(new(big.Int).Lsh(big.NewInt(1), uint(max(e, -e))))
	if e < 0 {
		power.Inv(power)
	}
	x, just := new(big.Rat).Mul(new(big.Rat).SetInt64(int64(n)), power).Float64()
	if !just {
		return 0, api.ErrRange
	}
	return x, api.OK
}

// modelMay reckons in whole steps of 2^-100.
func modelMay(x, y float64) bool {
	reach := new(big.Rat).SetInt(new(big.Int).Lsh(big.NewInt(1), 100))
	for _, x := range []float64{x, y} {
		exact := new(big.Rat).SetFloat64(x)
		if exact == nil || new(big.Rat).Abs(exact).Cmp(reach) > 0 || !exact.Mul(exact, reach).IsInt() {
			return false
		}
	}
	return true
}

// modelRow knows a line by the letters of its words: n is the number that must
// stand first, e an end, w a whole number, x a float, y one behind which the
// point must be one that may be.
func modelRow(words []string, letters string, number, start, nodes int) ([]int, []float64, api.Errno) {
	var wholes []int
	var floats []float64
	if len(words) != len(letters) {
		return nil, nil, api.ErrForm
	}
	for i, letter := range letters {
		n, fits := modelInt(words[i])
		x, err := modelFloat(words[i])
		switch isFloat := letter == 'x' || letter == 'y'; {
		case isFloat && err != api.OK:
			return nil, nil, err
		case !isFloat && !fits, letter == 'n' && n != number:
			return nil, nil, api.ErrForm
		case letter == 'e' && (n < start || n > start+nodes-1):
			return nil, nil, api.ErrIndex
		case letter == 'y' && !modelMay(floats[0], x):
			return nil, nil, api.ErrRange
		}
		wholes, floats = append(wholes, n), append(floats, x)
		if letter == 'n' {
			floats = nil
		}
	}
	return wholes, floats, api.OK
}

// modelHead is a part's first line: numbers from 0 on, the first one of which
// says how many things there are.
func modelHead(words []string, count int) ([]int, api.Errno) {
	var said []int
	for _, word := range words {
		n, fits := modelInt(word)
		if !fits || n < 0 {
			return nil, api.ErrForm
		}
		said = append(said, n)
	}
	switch {
	case len(said) != count:
		return nil, api.ErrForm
	case said[0] > 1048576:
		return nil, api.ErrFull
	case count == 2 && said[1] > 1:
		return nil, api.ErrForm
	}
	return said, api.OK
}

func start(f polyfile.File) int {
	if f.Nodes.Zero {
		return 0
	}
	return 1
}

// modelRead goes over the lines by their places.
func modelRead(text string, other nodefile.File) (polyfile.File, int, api.Errno) {
	l, at, err := lines.Read(text)
	if err != api.OK {
		return polyfile.File{}, at, err
	}
	var f polyfile.File
	nodes, next, at, err := nodefile.Take(l)
	if err != api.OK {
		return polyfile.File{}, at, err
	}
	if f.Nodes = nodes; len(nodes.Nodes) == 0 && len(other.Nodes) > 0 {
		f.Nodes, f.Elsewhere = other, true
	}
	fault := func(err api.Errno) (polyfile.File, int, api.Errno) {
		if next < len(l) {
			return polyfile.File{}, l[next].No, err
		}
		return polyfile.File{}, l[len(l)-1].No + 1, err
	}
	for part := range 3 {
		if next == len(l) {
			if part == 2 {
				return f, 0, api.OK
			}
			return fault(api.ErrForm)
		}
		said, err := modelHead(l[next].Words, []int{2, 1, 1}[part])
		if err != api.OK {
			return fault(err)
		}
		letters := []string{"nee", "nxy", "nxyxx"}[part]
		if part == 0 && said[1] == 1 {
			f.Marks = true
			letters = "neew"
		}
		next++
		for i := range said[0] {
			if next == len(l) {
				return fault(api.ErrForm)
			}
			n, x, err := modelRow(l[next].Words, letters, start(f)+i, start(f), len(f.Nodes.Nodes))
			if err != api.OK {
				return fault(err)
			}
			switch part {
			case 0:
				n = append(n, 0)[:4]
				f.Segs = append(f.Segs, api.Seg{A: n[1] - start(f), B: n[2] - start(f), Mark: n[3]})
			case 1:
				f.Holes = append(f.Holes, api.Point{X: x[0], Y: x[1]})
			case 2:
				f.Regions = append(f.Regions, api.Region{P: api.Point{X: x[0], Y: x[1]}, Attr: x[2], Area: x[3]})
			}
			next++
		}
	}
	if next < len(l) {
		return fault(api.ErrForm)
	}
	return f, 0, api.OK
}

// modelText is a float's text by the library's own writing of its bits.
func modelText(x float64) string {
	switch {
	case !(math.Abs(x) <= math.MaxFloat64):
		return ""
	case x == math.Trunc(x) && math.Abs(x) < 1<<53:
		return strconv.FormatFloat(x+0, 'f', 0, 64) // -0 and 0 are 0
	}
	n, e, _ := strings.Cut(strconv.FormatFloat(x, 'b', -1, 64), "p")
	size, _ := strconv.ParseInt(n, 10, 64)
	power, _ := strconv.Atoi(e)
	for ; size%2 == 0; size /= 2 {
		power++
	}
	return strconv.FormatInt(size, 10) + "b" + strconv.Itoa(power)
}

// modelFaults are all faults of a file whose points may be, in the order of the
// chapter's table.
func modelFaults(f polyfile.File) []api.Errno {
	var all []api.Errno
	tell := func(wrong bool, err api.Errno) {
		if wrong {
			all = append(all, err)
		}
	}
	finite := func(x float64) bool { return math.Abs(x) <= math.MaxFloat64 }
	count := len(f.Nodes.Nodes)
	tell(f.Elsewhere && count == 0, api.ErrArg)
	tell(len(f.Segs) > 1048576 || len(f.Holes) > 1048576 || len(f.Regions) > 1048576, api.ErrFull)
	for _, s := range f.Segs {
		tell(min(s.A, s.B) < 0 || max(s.A, s.B) > count-1, api.ErrIndex)
		tell(!f.Marks && s.Mark != 0, api.ErrArg)
	}
	for _, p := range f.Holes {
		tell(!modelMay(p.X, p.Y), api.ErrRange)
	}
	for _, g := range f.Regions {
		tell(!modelMay(g.P.X, g.P.Y), api.ErrRange)
		tell(!finite(g.Attr) || !finite(g.Area), api.ErrArg)
	}
	return all
}

// modelLines are a file's lines, or why there are none.
func modelLines(f polyfile.File) ([][]string, api.Errno) {
	l, err := nodefile.Put(f.Nodes)
	if err != api.OK {
		return nil, err
	}
	if faults := modelFaults(f); len(faults) > 0 {
		return nil, faults[0]
	}
	if f.Elsewhere {
		l = [][]string{append([]string{"0"}, l[0][1:]...)}
	}
	show := strconv.Itoa
	from := start(f)
	marks := map[bool]string{true: "1", false: "0"}[f.Marks]
	l = append(l, []string{show(len(f.Segs)), marks})
	for i, s := range f.Segs {
		words := []string{show(i + from), show(s.A + from), show(s.B + from), show(s.Mark)}
		l = append(l, words[:3+len(strings.Trim(marks, "0"))])
	}
	l = append(l, []string{show(len(f.Holes))})
	for i, p := range f.Holes {
		l = append(l, []string{show(i + from), modelText(p.X), modelText(p.Y)})
	}
	if len(f.Regions) > 0 {
		l = append(l, []string{show(len(f.Regions))})
	}
	for i, g := range f.Regions {
		l = append(l, []string{show(i + from), modelText(g.P.X), modelText(g.P.Y), modelText(g.Attr), modelText(g.Area)})
	}
	return l, api.OK
}

// sameFloats holds floats against each other to the last bit, so that 0 is no -0.
func sameFloats(a, b []float64) bool {
	return slices.EqualFunc(a, b, func(x, y float64) bool { return math.Float64bits(x) == math.Float64bits(y) })
}

func samePoint(a, b api.Point) bool { return sameFloats([]float64{a.X, a.Y}, []float64{b.X, b.Y}) }

func sameNode(a, b api.Node) bool {
	return samePoint(a.P, b.P) && sameFloats(a.Attr, b.Attr) && a.Mark == b.Mark
}

func sameNodes(a, b nodefile.File) bool {
	return a.Zero == b.Zero && a.Attrs == b.Attrs && a.Marks == b.Marks && slices.EqualFunc(a.Nodes, b.Nodes, sameNode)
}

func sameRegion(a, b api.Region) bool {
	return samePoint(a.P, b.P) && sameFloats([]float64{a.Attr, a.Area}, []float64{b.Attr, b.Area})
}

func sameFile(a, b polyfile.File) bool {
	return sameNodes(a.Nodes, b.Nodes) && a.Elsewhere == b.Elsewhere && a.Marks == b.Marks && slices.Equal(a.Segs, b.Segs) &&
		slices.EqualFunc(a.Holes, b.Holes, samePoint) && slices.EqualFunc(a.Regions, b.Regions, sameRegion)
}

// short is a list of which no more is told than a report can hold.
func short[T any](l []T) []T { return l[:min(len(l), 8)] }

func shortFile(f polyfile.File) polyfile.File {
	f.Nodes.Nodes, f.Segs, f.Holes, f.Regions = short(f.Nodes.Nodes), short(f.Segs), short(f.Holes), short(f.Regions)
	return f
}

// keptNodes is a copy of nodes with the room behind their ends.
func keptNodes(nodes []api.Node) []api.Node {
	kept := slices.Clone(nodes[:cap(nodes)])
	for i, node := range kept {
		kept[i].Attr = slices.Clone(node.Attr[:cap(node.Attr)])
	}
	return kept
}

// stillNodes says whether nodes are as they were, with the room behind their ends.
func stillNodes(nodes, kept []api.Node) bool {
	return slices.EqualFunc(nodes[:cap(nodes)], kept, func(now, was api.Node) bool {
		now.Attr = now.Attr[:cap(now.Attr)]
		return sameNode(now, was)
	})
}

// readIs holds what is read against what is wanted, and looks whether the other
// file is left as it was (R3).
func readIs(t *testing.T, text string, other nodefile.File, want polyfile.File, wantAt int, wantErr api.Errno) {
	t.Helper()
	kept := keptNodes(other.Nodes)
	f, at, err := polyfile.Read(text, other)
	if !sameFile(f, want) || at != wantAt || err != wantErr {
		t.Fatalf("Read of %q: %v.., %d, %v, want %v.., %d, %v",
			text[:min(len(text), 300)], shortFile(f), at, err, shortFile(want), wantAt, wantErr)
	}
	if !stillNodes(other.Nodes, kept) {
		t.Fatal("the other file has changed")
	}
}

// asked holds a text against the model, and tells how it is read.
func asked(t *testing.T, text string, other nodefile.File) api.Errno {
	t.Helper()
	f, at, err := modelRead(text, other)
	readIs(t, text, other, f, at, err)
	return err
}

// writeIs holds a file's text against the model, and looks whether the file is
// left as it was (R3); it tells how it is written.
func writeIs(t *testing.T, f polyfile.File) (string, api.Errno) {
	t.Helper()
	nodes := keptNodes(f.Nodes.Nodes)
	segs, holes, regions := slices.Clone(f.Segs[:cap(f.Segs)]), slices.Clone(f.Holes[:cap(f.Holes)]), slices.Clone(f.Regions[:cap(f.Regions)])
	want := ""
	l, wantErr := modelLines(f)
	if wantErr == api.OK {
		want, wantErr = lines.Write(l)
	}
	text, err := polyfile.Write(f)
	if text != want || err != wantErr {
		t.Fatalf("Write of %v..: %q, %v, want %q, %v", shortFile(f), text[:min(len(text), 300)], err, want[:min(len(want), 300)], wantErr)
	}
	if !stillNodes(f.Nodes.Nodes, nodes) || !slices.Equal(f.Segs[:cap(f.Segs)], segs) ||
		!slices.EqualFunc(f.Holes[:cap(f.Holes)], holes, samePoint) || !slices.EqualFunc(f.Regions[:cap(f.Regions)], regions, sameRegion) {
		t.Fatal("what is written has changed")
	}
	return text, err
}
