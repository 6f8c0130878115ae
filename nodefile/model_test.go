package nodefile_test

import (
	"math"
	"math/big"
	"math/rand/v2"
	"regexp"
	"slices"
	"strconv"
	"strings"
	"testing"

	"trivet/api"
	"trivet/lines"
	"trivet/nodefile"
)

var (
	firstForm = regexp.MustCompile(`\A(0|[1-9][0-9]*) 2 (0|[1-9][0-9]*) ([01])\z`)
	wholeForm = regexp.MustCompile(`\A(0|-?[1-9][0-9]*)\z`)
	floatForm = regexp.MustCompile(`\A(0|-?[1-9][0-9]*)(b(0|-?[1-9][0-9]*))?\z`)
)

// modelInt is a whole number of R7, reckoned without bounds and then held
// against them.
func modelInt(word string) (int, bool) {
	if !wholeForm.MatchString(word) {
		return 0, false
	}
	n, _ := new(big.Int).SetString(word, 10)
	return int(n.Int64()), n.IsInt64()
}

// modelFloat reckons n times 2^e as a fraction.
func modelFloat(word string) (float64, api.Errno) {
	parts := floatForm.FindStringSubmatch(word)
	if parts == nil || len(word) > 400 {
		return 0, api.ErrForm
	}
	e := 0
	n, fits := modelInt(parts[1])
	if parts[3] != "" && fits {
		e, fits = modelInt(parts[3])
	}
	switch {
	case !fits:
		return 0, api.ErrForm
	case n == 0:
		return 0, api.OK
	case e > 3000 || e < -3000:
		return 0, api.ErrRange
	}
	power := new(big.Rat).SetInt(new(big.Int).Lsh(big.NewInt(1), uint(max(e, -e))))
	if e < 0 {
		power.Inv(power)
	}
	x, just := new(big.Rat).Mul(new(big.Rat).SetInt64(int64(n)), power).Float64()
	if !just {
		return 0, api.ErrRange
	}
	return x, api.OK
}

// modelMay reckons in whole steps of 2^-100.
func modelMay(p api.Point) bool {
	reach := new(big.Rat).SetInt(new(big.Int).Lsh(big.NewInt(1), 100))
	for _, x := range []float64{p.X, p.Y} {
		exact := new(big.Rat).SetFloat64(x)
		if exact == nil || new(big.Rat).Abs(exact).Cmp(reach) > 0 || !exact.Mul(exact, reach).IsInt() {
			return false
		}
	}
	return true
}

// modelTake asks an expression about the first line whole, and knows each
// further word by its place.
func modelTake(l []lines.Line) (nodefile.File, int, int, api.Errno) {
	none := func(at int, err api.Errno) (nodefile.File, int, int, api.Errno) { return nodefile.File{}, 0, at, err }
	if len(l) == 0 {
		return none(1, api.ErrForm)
	}
	parts := firstForm.FindStringSubmatch(strings.Join(l[0].Words, " "))
	if parts == nil || len(l[0].Words) != 4 {
		return none(l[0].No, api.ErrForm)
	}
	count, countFits := modelInt(parts[1])
	attrs, attrsFit := modelInt(parts[2])
	switch {
	case !countFits || !attrsFit:
		return none(l[0].No, api.ErrForm)
	case count > 1048576 || attrs > 16:
		return none(l[0].No, api.ErrFull)
	}
	f := nodefile.File{Attrs: attrs, Marks: parts[3] == "1"}
	start := 0
	for i := 1; i <= count; i++ {
		if i == len(l) {
			return none(l[len(l)-1].No+1, api.ErrForm)
		}
		if i == 1 && len(l[i].Words) > 0 && l[i].Words[0] != "0" {
			start = 1
		}
		node, err := modelNode(l[i].Words, f, strconv.Itoa(start+i-1))
		if err != api.OK {
			return none(l[i].No, err)
		}
		f.Nodes = append(f.Nodes, node)
	}
	f.Zero = count > 0 && start == 0
	return f, count + 1, 0, api.OK
}

// modelNode is the node of a line that must begin with that word.
func modelNode(words []string, f nodefile.File, first string) (api.Node, api.Errno) {
	floats := words[min(len(words), 1):]
	if f.Marks && len(floats) > 0 {
		floats = floats[:len(floats)-1]
	}
	if len(floats) != 2+f.Attrs || len(words) < 3 || words[0] != first {
		return api.Node{}, api.ErrForm
	}
	var read []float64
	for i, word := range floats {
		x, err := modelFloat(word)
		if err != api.OK {
			return api.Node{}, err
		}
		if read = append(read, x); i == 1 && !modelMay(api.Point{X: read[0], Y: read[1]}) {
			return api.Node{}, api.ErrRange
		}
	}
	node := api.Node{P: api.Point{X: read[0], Y: read[1]}, Attr: read[2:]}
	if f.Marks {
		mark, fits := modelInt(words[len(words)-1])
		if node.Mark = mark; !fits {
			return api.Node{}, api.ErrForm
		}
	}
	return node, api.OK
}

// modelRead is what must come of a text, by what must come of its lines.
func modelRead(text string) (nodefile.File, int, api.Errno) {
	l, at, err := lines.Read(text)
	if err != api.OK {
		return nodefile.File{}, at, err
	}
	f, used, at, err := modelTake(l)
	if err == api.OK && used != len(l) {
		return nodefile.File{}, l[used].No, api.ErrForm
	}
	return f, at, err
}

// modelText is a float's text by the library's own writing of its bits.
func modelText(x float64) string {
	switch {
	case !(math.Abs(x) <= math.MaxFloat64):
		return ""
	case x == math.Trunc(x) && math.Abs(x) < 1<<53:
		return strconv.FormatFloat(x+0, 'f', 0, 64) // -0 and 0 are 0
	}
	n, e, _ := strings.Cut(strconv.FormatFloat(x, 'b', -1, 64), "p")
	size, _ := strconv.ParseInt(n, 10, 64)
	power, _ := strconv.Atoi(e)
	for ; size%2 == 0; size /= 2 {
		power++
	}
	return strconv.FormatInt(size, 10) + "b" + strconv.Itoa(power)
}

// modelPut counts the faults of each kind, and tells the lines if there are none.
func modelPut(f nodefile.File) ([][]string, api.Errno) {
	args, points := 0, 0
	count := func(n *int, wrong bool) {
		if wrong {
			*n++
		}
	}
	count(&args, f.Attrs < 0 || f.Attrs > 16 || f.Zero && len(f.Nodes) == 0)
	marks, start := "0", 1
	if f.Marks {
		marks = "1"
	}
	if f.Zero {
		start = 0
	}
	l := [][]string{{strconv.Itoa(len(f.Nodes)), "2", strconv.Itoa(f.Attrs), marks}}
	for i, node := range f.Nodes {
		count(&points, !modelMay(node.P))
		count(&args, len(node.Attr) != f.Attrs || !f.Marks && node.Mark != 0)
		words := []string{strconv.Itoa(start + i)}
		for _, x := range append([]float64{node.P.X, node.P.Y}, node.Attr...) {
			words = append(words, modelText(x))
		}
		for _, x := range node.Attr {
			count(&args, !(math.Abs(x) <= math.MaxFloat64))
		}
		if f.Marks {
			words = append(words, strconv.Itoa(node.Mark))
		}
		l = append(l, words)
	}
	switch {
	case len(f.Nodes) > 1048576:
		return nil, api.ErrFull
	case args > 0:
		return nil, api.ErrArg
	case points > 0:
		return nil, api.ErrRange
	}
	return l, api.OK
}

// sameFloats holds floats against each other to the last bit, so that 0 is no -0.
func sameFloats(a, b []float64) bool {
	return slices.EqualFunc(a, b, func(x, y float64) bool { return math.Float64bits(x) == math.Float64bits(y) })
}

func sameNode(a, b api.Node) bool {
	return sameFloats([]float64{a.P.X, a.P.Y}, []float64{b.P.X, b.P.Y}) && sameFloats(a.Attr, b.Attr) && a.Mark == b.Mark
}

func sameFile(a, b nodefile.File) bool {
	return a.Zero == b.Zero && a.Attrs == b.Attrs && a.Marks == b.Marks && slices.EqualFunc(a.Nodes, b.Nodes, sameNode)
}

func sameWords(a, b [][]string) bool { return slices.EqualFunc(a, b, slices.Equal) }

// short is a file, or lines, of which no more is told than a report can hold.
func short[T any](l []T) []T { return l[:min(len(l), 8)] }

// readIs holds what is read against what is wanted.
func readIs(t *testing.T, text string, want nodefile.File, wantAt int, wantErr api.Errno) {
	t.Helper()
	f, at, err := nodefile.Read(text)
	if !sameFile(f, want) || at != wantAt || err != wantErr {
		t.Fatalf("Read of %q: %v.., %d, %v, want %v.., %d, %v",
			text[:min(len(text), 300)], short(f.Nodes), at, err, short(want.Nodes), wantAt, wantErr)
	}
}

// takeIs holds what is taken against what is wanted, and looks whether the lines,
// with the room behind their ends, are left as they were (R3).
func takeIs(t *testing.T, l []lines.Line, want nodefile.File, wantUsed, wantAt int, wantErr api.Errno) {
	t.Helper()
	kept := slices.Clone(l[:cap(l)])
	for i, line := range kept {
		kept[i].Words = slices.Clone(line.Words[:cap(line.Words)])
	}
	f, used, at, err := nodefile.Take(l)
	if !sameFile(f, want) || used != wantUsed || at != wantAt || err != wantErr {
		t.Fatalf("Take of %v..: %v.., %d, %d, %v, want %v.., %d, %d, %v",
			short(l), short(f.Nodes), used, at, err, short(want.Nodes), wantUsed, wantAt, wantErr)
	}
	for i, line := range l[:cap(l)] {
		if kept[i].No != line.No || !slices.Equal(kept[i].Words, line.Words[:cap(line.Words)]) {
			t.Fatalf("line %d of what is taken has changed", i)
		}
	}
}

// asked holds a text against the model, read and taken, and tells how it is read.
func asked(t *testing.T, text string) api.Errno {
	t.Helper()
	f, at, err := modelRead(text)
	readIs(t, text, f, at, err)
	if l, _, wrong := lines.Read(text); wrong == api.OK {
		want, used, at, wrong := modelTake(l)
		takeIs(t, l, want, used, at, wrong)
	}
	return err
}

// putIs holds a file's lines and its text against the model, and looks whether
// the file is left as it was (R3); it tells how it is put.
func putIs(t *testing.T, f nodefile.File) ([][]string, api.Errno) {
	t.Helper()
	kept := slices.Clone(f.Nodes[:cap(f.Nodes)])
	for i, node := range kept {
		kept[i].Attr = slices.Clone(node.Attr[:cap(node.Attr)])
	}
	want, wantErr := modelPut(f)
	if l, err := nodefile.Put(f); !sameWords(l, want) || err != wantErr {
		t.Fatalf("Put of %v..: %q.., %v, want %q.., %v", short(f.Nodes), short(l), err, short(want), wantErr)
	}
	text, textErr := "", wantErr
	if wantErr == api.OK {
		text, textErr = lines.Write(want)
	}
	if got, err := nodefile.Write(f); got != text || err != textErr {
		t.Fatalf("Write of %v..: %q, %v, want %v", short(f.Nodes), got[:min(len(got), 300)], err, textErr)
	}
	for i, node := range f.Nodes[:cap(f.Nodes)] {
		node.Attr = node.Attr[:cap(node.Attr)]
		if !sameNode(kept[i], node) {
			t.Fatalf("node %d of what is put has changed", i)
		}
	}
	return want, wantErr
}

// drawnCoordinate is one that may be.
func drawnCoordinate(r *rand.Rand) float64 {
	var x float64
	switch r.IntN(6) {
	case 0:
		x = float64(r.IntN(7))
	case 1:
		x = float64(r.Int64N(1 << 53))
	case 2:
		x = math.Ldexp(float64(r.Int64N(1<<53)), -r.IntN(100))
	case 3:
		x = math.Ldexp(float64(r.Int64N(1<<20)), r.IntN(80))
	case 4:
		x = math.Ldexp(1, r.IntN(201)-100)
	default:
		x = r.Float64()
		x = math.Trunc(x*0x1p100) * 0x1p-100
	}
	if r.IntN(2) == 0 {
		x = 0 - x // no -0
	}
	return x
}

// drawnFloat is any finite one but -0.
func drawnFloat(r *rand.Rand) float64 {
	x := math.Float64frombits(r.Uint64())
	if r.IntN(2) == 0 || math.IsNaN(x) || math.IsInf(x, 0) {
		return drawnCoordinate(r)
	}
	return x + 0
}

func drawnMark(r *rand.Rand) int {
	switch r.IntN(4) {
	case 0:
		return int(r.Uint64())
	case 1:
		return []int{math.MinInt64, math.MaxInt64, 0, -1}[r.IntN(4)]
	}
	return r.IntN(9) - 4
}

// drawnFile is one that may be, with no -0 in it.
func drawnFile(r *rand.Rand) nodefile.File {
	f := nodefile.File{Marks: r.IntN(2) == 0}
	if r.IntN(2) == 0 {
		f.Attrs = r.IntN(17)
	}
	for range r.IntN(6) {
		node := api.Node{P: api.Point{X: drawnCoordinate(r), Y: drawnCoordinate(r)}}
		for range f.Attrs {
			node.Attr = append(node.Attr, drawnFloat(r))
		}
		if f.Marks {
			node.Mark = drawnMark(r)
		}
		f.Nodes = append(f.Nodes, node)
	}
	f.Zero = len(f.Nodes) > 0 && r.IntN(2) == 0
	return f
}

func drawnBlanks(r *rand.Rand, least int) string {
	blanks := ""
	for range least + r.IntN(3) {
		blanks += []string{" ", "\t", "\r"}[r.IntN(3)]
	}
	return blanks
}

// drawnRemark has any bytes but 0A; most lines have none.
func drawnRemark(r *rand.Rand) string {
	if r.IntN(3) > 0 {
		return ""
	}
	remark := []byte("#")
	for range r.IntN(12) {
		if c := byte(r.IntN(256)); c != 0x0a {
			remark = append(remark, c)
		}
	}
	return string(remark)
}

// widened are lines as a text, with drawn blanks, remarks and lines without words
// between, and the number of each in the text.
func widened(r *rand.Rand, l [][]string) (string, []int) {
	var all []string
	var at []int
	empty := func() {
		for range r.IntN(3) {
			all = append(all, drawnBlanks(r, 0)+drawnRemark(r))
		}
	}
	for _, words := range l {
		empty()
		line := drawnBlanks(r, 0)
		for i, word := range words {
			if i > 0 {
				line += drawnBlanks(r, 1)
			}
			line += word
		}
		all = append(all, line+drawnBlanks(r, 0)+drawnRemark(r))
		at = append(at, len(all))
	}
	empty()
	return strings.Join(all, "\n") + strings.Repeat("\n", r.IntN(3)), at
}

// plain are lines as a text with nothing between.
func plain(l [][]string) string {
	text := ""
	for _, words := range l {
		text += strings.Join(words, " ") + "\n"
	}
	return text
}

// numbered are lines with numbers that rise by steps of any size.
func numbered(r *rand.Rand, l [][]string) []lines.Line {
	var all []lines.Line
	no := 0
	for _, words := range l {
		no += 1 + r.IntN(3)
		all = append(all, lines.Line{No: no, Words: slices.Clone(words)})
	}
	return all
}
