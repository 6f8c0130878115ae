package polyfile_test

import (
	"math"
	"math/rand/v2"
	"slices"
	"strings"

	"trivet/api"
	"trivet/nodefile"
	"trivet/polyfile"
)

// drawnCoordinate is one that may be.
func drawnCoordinate(r *rand.Rand) float64 {
	var x float64
	switch r.IntN(6) {
	case 0:
		x = float64(r.IntN(7))
	case 1:
		x = float64(r.Int64N(1 << 53))
	case 2:
		x = math.Ldexp(float64(r.Int64N(1<<53)), -r.IntN(100))
	case 3:
		x = math.Ldexp(float64(r.Int64N(1<<20)), r.IntN(80))
	case 4:
		x = math.Ldexp(1, r.IntN(201)-100)
	default:
		x = r.Float64()
		x = math.Trunc(x*0x1p100) * 0x1p-100
	}
	if r.IntN(2) == 0 {
		x = 0 - x // no -0
	}
	return x
}

func drawnPoint(r *rand.Rand) api.Point {
	return api.Point{X: drawnCoordinate(r), Y: drawnCoordinate(r)}
}

// drawnFloat is any finite one but -0.
func drawnFloat(r *rand.Rand) float64 {
	x := math.Float64frombits(r.Uint64())
	if r.IntN(2) == 0 || math.IsNaN(x) || math.IsInf(x, 0) {
		return drawnCoordinate(r)
	}
	return x + 0
}

func drawnMark(r *rand.Rand) int {
	switch r.IntN(4) {
	case 0:
		return int(r.Uint64())
	case 1:
		return []int{math.MinInt64, math.MaxInt64, 0, -1}[r.IntN(4)]
	}
	return r.IntN(9) - 4
}

// drawnNodes is a file of points that may be, with no -0 in it.
func drawnNodes(r *rand.Rand, count int) nodefile.File {
	f := nodefile.File{Marks: r.IntN(2) == 0, Zero: count > 0 && r.IntN(2) == 0}
	if r.IntN(2) == 0 {
		f.Attrs = r.IntN(4)
	}
	for range count {
		node := api.Node{P: drawnPoint(r)}
		for range f.Attrs {
			node.Attr = append(node.Attr, drawnFloat(r))
		}
		if f.Marks {
			node.Mark = drawnMark(r)
		}
		f.Nodes = append(f.Nodes, node)
	}
	return f
}

// drawnFile is a graph that may be, with no -0 in it.
func drawnFile(r *rand.Rand) polyfile.File {
	count := r.IntN(7)
	f := polyfile.File{Nodes: drawnNodes(r, count), Marks: r.IntN(2) == 0}
	if count > 0 {
		f.Elsewhere = r.IntN(3) == 0
		for range r.IntN(6) {
			seg := api.Seg{A: r.IntN(count), B: r.IntN(count)}
			if f.Marks {
				seg.Mark = drawnMark(r)
			}
			f.Segs = append(f.Segs, seg)
		}
	}
	for range max(r.IntN(6)-2, 0) {
		f.Holes = append(f.Holes, drawnPoint(r))
	}
	for range max(r.IntN(6)-2, 0) {
		f.Regions = append(f.Regions, api.Region{P: drawnPoint(r), Attr: drawnFloat(r), Area: drawnFloat(r)})
	}
	return f
}

// otherOf is an other file with which a file's text is read as it was: its own
// points, if they stand elsewhere; else any, but none, if it has none.
func otherOf(r *rand.Rand, f polyfile.File) nodefile.File {
	switch {
	case f.Elsewhere:
		return f.Nodes
	case len(f.Nodes.Nodes) == 0:
		return nodefile.File{Zero: r.IntN(2) == 0, Attrs: r.IntN(5) - 1, Marks: r.IntN(2) == 0}
	}
	return drawnNodes(r, r.IntN(9))
}

func drawnBlanks(r *rand.Rand, least int) string {
	blanks := ""
	for range least + r.IntN(3) {
		blanks += []string{" ", "\t", "\r"}[r.IntN(3)]
	}
	return blanks
}

// drawnRemark has any bytes but 0A; most lines have none.
func drawnRemark(r *rand.Rand) string {
	if r.IntN(3) > 0 {
		return ""
	}
	remark := []byte("#")
	for range r.IntN(12) {
		if c := byte(r.IntN(256)); c != 0x0a {
			remark = append(remark, c)
		}
	}
	return string(remark)
}

// widened are lines as a text, with drawn blanks, remarks and lines without words
// between, and the number of each in the text.
func widened(r *rand.Rand, l [][]string) (string, []int) {
	var all []string
	var at []int
	empty := func() {
		for range r.IntN(3) {
			all = append(all, drawnBlanks(r, 0)+drawnRemark(r))
		}
	}
	for _, words := range l {
		empty()
		line := drawnBlanks(r, 0)
		for i, word := range words {
			if i > 0 {
				line += drawnBlanks(r, 1)
			}
			line += word
		}
		all = append(all, line+drawnBlanks(r, 0)+drawnRemark(r))
		at = append(at, len(all))
	}
	empty()
	return strings.Join(all, "\n") + strings.Repeat("\n", r.IntN(3)), at
}

// plain are lines as a text with nothing between.
func plain(l [][]string) string {
	text := ""
	for _, words := range l {
		text += strings.Join(words, " ") + "\n"
	}
	return text
}

// spoilt are lines with one thing changed: a word, a word more or less, a line
// more or less, two lines the other way about.
func spoilt(r *rand.Rand, l [][]string) [][]string {
	words := []string{
		"0", "1", "2", "3", "4", "5", "6", "7", "-1", "-0", "00", "+1", "x", "b", "1b", "1b1", "3b-2", "1.5", "1b100", "1b101", "-1b100",
		"1b-100", "1b-101", "1b1023", "1b1024", "1b-1074", "1b-1075", "9007199254740993", "1048576", "1048577",
		"9223372036854775807", "9223372036854775808", "-9223372036854775808", "-9223372036854775809", "0b9", "0b-99999", "1b-0",
	}
	l = slices.Clone(l)
	if len(l) == 0 {
		return l
	}
	i := r.IntN(len(l))
	k := r.IntN(len(l[i]))
	word := words[r.IntN(len(words))]
	switch kind := r.IntN(12); {
	case kind == 0 && len(l[i]) > 1:
		l[i] = slices.Delete(slices.Clone(l[i]), k, k+1)
	case kind == 1:
		l[i] = slices.Insert(slices.Clone(l[i]), k, word)
	case kind == 2:
		l = slices.Delete(l, i, i+1)
	case kind == 3:
		l = slices.Insert(l, i, []string{word})
	case kind == 4:
		k := r.IntN(len(l))
		l[i], l[k] = l[k], l[i]
	case kind == 5:
		l = append(l, l[i])
	default:
		l[i] = slices.Clone(l[i])
		l[i][k] = word
	}
	return l
}
