package listfile_test

import (
	"math"
	"math/big"
	"regexp"
	"slices"
	"strconv"
	"strings"
	"testing"

	"trivet/api"
	"trivet/lines"
	"trivet/listfile"
)

// kind is one of the three kinds of files.
type kind string

const (
	edges kind = "edges"
	near  kind = "neighbours"
	areas kind = "areas"
)

var kinds = []kind{edges, near, areas}

// sheet is a file of any kind.
type sheet struct {
	kind  kind
	first int
	marks bool
	rows  []row
}

// row is a thing of any kind: its whole numbers (of an edge A, B and Mark) and its
// floats (of an edge those of its Ray).
type row struct {
	n []int
	x []float64
}

func edge(a, b, mark int) row { return row{[]int{a, b, mark}, []float64{0, 0}} }

func ray(a, mark int, x, y float64) row { return row{[]int{a, -1, mark}, []float64{x, y}} }

func three(a, b, c int) row { return row{n: []int{a, b, c}} }

func area(x float64) row { return row{x: []float64{x}} }

// rowsOf are a list's things as rows.
func rowsOf[T any](l []T, one func(T) row) []row {
	var rows []row
	for _, thing := range l {
		rows = append(rows, one(thing))
	}
	return rows
}

// read is what the package reads.
func read(k kind, text string) (sheet, int, api.Errno) {
	switch k {
	case edges:
		f, at, err := listfile.ReadEdges(text)
		one := func(e listfile.Edge) row { return row{[]int{e.A, e.B, e.Mark}, []float64{e.Ray.X, e.Ray.Y}} }
		return sheet{k, f.First, f.Marks, rowsOf(f.L, one)}, at, err
	case near:
		f, at, err := listfile.ReadNear(text)
		return sheet{k, f.First, false, rowsOf(f.L, func(n [3]int) row { return three(n[0], n[1], n[2]) })}, at, err
	}
	f, at, err := listfile.ReadAreas(text)
	return sheet{k, f.First, false, rowsOf(f.L, area)}, at, err
}

// spared are a sheet's things as a list, with one more in the room behind its end,
// and a question whether all of them are as they were (R3).
func spared[T any](s sheet, one func(row) T, more T, same func(a, b T) bool) ([]T, func() bool) {
	l := make([]T, 0, len(s.rows)+1)
	for _, r := range s.rows {
		l = append(l, one(r))
	}
	l = append(l, more)
	kept := slices.Clone(l)
	return l[:len(s.rows)], func() bool { return slices.EqualFunc(l, kept, same) }
}

// write is what the package writes, and whether what was handed in is as it was.
func write(s sheet) (string, api.Errno, bool) {
	switch s.kind {
	case edges:
		one := func(r row) listfile.Edge {
			return listfile.Edge{A: r.n[0], B: r.n[1], Mark: r.n[2], Ray: api.Point{X: r.x[0], Y: r.x[1]}}
		}
		l, kept := spared(s, one, listfile.Edge{A: -7, B: -7}, sameEdge)
		text, err := listfile.WriteEdges(listfile.Edges{First: s.first, Marks: s.marks, L: l})
		return text, err, kept()
	case near:
		same := func(a, b [3]int) bool { return a == b }
		l, kept := spared(s, func(r row) [3]int { return [3]int(r.n) }, [3]int{-7, -7, -7}, same)
		text, err := listfile.WriteNear(listfile.Near{First: s.first, L: l})
		return text, err, kept()
	}
	l, kept := spared(s, func(r row) float64 { return r.x[0] }, math.Inf(1), sameFloat)
	text, err := listfile.WriteAreas(listfile.Areas{First: s.first, L: l})
	return text, err, kept()
}

func sameEdge(a, b listfile.Edge) bool {
	return a.A == b.A && a.B == b.B && a.Mark == b.Mark && sameFloat(a.Ray.X, b.Ray.X) && sameFloat(a.Ray.Y, b.Ray.Y)
}

// sameFloat holds floats against each other to the last bit, so that 0 is no -0.
func sameFloat(x, y float64) bool { return math.Float64bits(x) == math.Float64bits(y) }

func sameSheet(a, b sheet) bool {
	return a.kind == b.kind && a.first == b.first && a.marks == b.marks &&
		slices.EqualFunc(a.rows, b.rows, func(a, b row) bool { return slices.Equal(a.n, b.n) && slices.EqualFunc(a.x, b.x, sameFloat) })
}

var (
	headForms = map[kind]*regexp.Regexp{
		edges: regexp.MustCompile(`\A(0|[1-9][0-9]*) ([01])\z`),
		near:  regexp.MustCompile(`\A(0|[1-9][0-9]*) (3)\z`),
		areas: regexp.MustCompile(`\A(0|[1-9][0-9]*)()\z`),
	}
	wholeForm = regexp.MustCompile(`\A(0|-?[1-9][0-9]*)\z`)
	floatForm = regexp.MustCompile(`\A(0|-?[1-9][0-9]*)(b(0|-?[1-9][0-9]*))?\z`)
)

// modelInt is a whole number of R7, reckoned without bounds and then held
// against them.
func modelInt(word string) (int, bool) {
	if !wholeForm.MatchString(word) {
		return 0, false
	}
	n, _ := new(big.Int).SetString(word, 10)
	return int(n.Int64()), n.IsInt64()
}

// modelFloat reckons n times 2^e as a fraction.
func modelFloat(word string) (float64, api.Errno) {
	parts := floatForm.FindStringSubmatch(word)
	if parts == nil || len(word) > 400 {
		return 0, api.ErrForm
	}
	e := 0
	n, fits := modelInt(parts[1])
	if parts[3] != "" && fits {
		e, fits = modelInt(parts[3])
	}
	switch {
	case !fits:
		return 0, api.ErrForm
	case n == 0:
		return 0, api.OK
	case e > 3000 || e < -3000:
		return 0, api.ErrRange
	}
	power := new(big.Rat).SetInt(new(big.Int).Lsh(big.NewInt(1), uint(max(e, -e))))
	if e < 0 {
		power.Inv(power)
	}
	x, just := new(big.Rat).Mul(new(big.Rat).SetInt64(int64(n)), power).Float64()
	if !just {
		return 0, api.ErrRange
	}
	return x, api.OK
}

// shape tells what each word of a line must be, by a letter each: # its own
// number, p a point's, t a triangle's or none, - none, f a float, m a marker.
func shape(k kind, marks bool, thirdWord string) string {
	marker := ""
	if marks {
		marker = "m"
	}
	switch {
	case k == near:
		return "#ttt"
	case k == areas:
		return "#f"
	case thirdWord == "-1":
		return "#p-ff" + marker
	}
	return "#pp" + marker
}

// modelRead asks an expression about the first line whole, and a shape about each
// word of the others: all of them about their form first, then about what they say.
func modelRead(k kind, text string) (sheet, int, api.Errno) {
	none := func(at int, err api.Errno) (sheet, int, api.Errno) { return sheet{kind: k}, at, err }
	l, at, err := lines.Read(text)
	if err != api.OK {
		return none(at, err)
	}
	if len(l) == 0 {
		return none(0, api.ErrForm)
	}
	parts := headForms[k].FindStringSubmatch(strings.Join(l[0].Words, " "))
	if parts == nil {
		return none(l[0].No, api.ErrForm)
	}
	count, fits := modelInt(parts[1])
	switch {
	case !fits:
		return none(l[0].No, api.ErrForm)
	case count > 1048576:
		return none(l[0].No, api.ErrFull)
	}
	s := sheet{kind: k, marks: k == edges && parts[2] == "1"}
	for i, line := range l[1:] {
		if i == 0 && line.Words[0] != "0" {
			s.first = 1
		}
		third := ""
		if len(line.Words) > 2 {
			third = line.Words[2]
		}
		r, err := modelRow(line.Words, shape(k, s.marks, third), s.first, i)
		if i >= count {
			err = api.ErrForm
		}
		if err != api.OK {
			return none(line.No, err)
		}
		s.rows = append(s.rows, r)
	}
	if len(s.rows) != count {
		return none(0, api.ErrForm)
	}
	return s, 0, api.OK
}

func modelRow(words []string, shape string, first, place int) (row, api.Errno) {
	if len(words) != len(shape) {
		return row{}, api.ErrForm
	}
	numbers := make([]int, len(words))
	for i, word := range words {
		var fits bool
		if numbers[i], fits = modelInt(word); !fits && shape[i] != 'f' {
			return row{}, api.ErrForm
		}
	}
	if numbers[0] != first+place {
		return row{}, api.ErrForm
	}
	var r row
	for i, n := range numbers {
		far := new(big.Int).Sub(big.NewInt(int64(n)), big.NewInt(int64(first)))
		astray := far.Sign() < 0 || far.BitLen() > 20
		switch c := shape[i]; {
		case c == 'f':
			x, err := modelFloat(words[i])
			if err != api.OK {
				return row{}, err
			}
			r.x = append(r.x, x)
		case c == '-' || c == 'm' || c == 't' && words[i] == "-1":
			r.n = append(r.n, n)
		case c != '#' && astray:
			return row{}, api.ErrIndex
		case c != '#':
			r.n = append(r.n, n-first)
		}
	}
	if strings.HasPrefix(shape, "#p") { // an edge has three numbers and a Ray, told or not
		r.n = append(r.n, 0)[:3]
		r.x = append(r.x, 0, 0)[:2]
	}
	return r, api.OK
}

// modelText is a float's text by the library's own writing of its bits.
func modelText(x float64) string {
	switch {
	case !(math.Abs(x) <= math.MaxFloat64):
		return ""
	case x == math.Trunc(x) && math.Abs(x) < 1<<53:
		return strconv.FormatFloat(x+0, 'f', 0, 64) // -0 and 0 are 0
	}
	n, e, _ := strings.Cut(strconv.FormatFloat(x, 'b', -1, 64), "p")
	size, _ := strconv.ParseInt(n, 10, 64)
	power, _ := strconv.Atoi(e)
	for ; size%2 == 0; size /= 2 {
		power++
	}
	return strconv.FormatInt(size, 10) + "b" + strconv.Itoa(power)
}

// modelLines counts the faults of a sheet, and tells its lines if there are none.
func modelLines(s sheet) ([][]string, api.Errno) {
	faults := 0
	count := func(wrong bool) {
		if wrong {
			faults++
		}
	}
	count(s.first != 0 && s.first != 1)
	count(len(s.rows) > 1048576)
	head := map[kind]string{edges: " 0", near: " 3"}[s.kind]
	if s.marks {
		head = " 1"
	}
	l := [][]string{strings.Fields(strconv.Itoa(len(s.rows)) + head)}
	for i, r := range s.rows {
		for _, x := range r.x {
			count(!(math.Abs(x) <= math.MaxFloat64))
		}
		third, numbers, floats := "", r.n, r.x
		if s.kind == edges {
			count(r.n[2] != 0 && !s.marks)
			count(r.n[1] != -1 && !(r.x[0] == 0 && r.x[1] == 0))
			third = strconv.Itoa(r.n[1])
		}
		var words []string
		for _, c := range shape(s.kind, s.marks, third) {
			n := i
			switch c {
			case 'f':
				words = append(words, modelText(floats[0]))
				floats = floats[1:]
				continue
			case 'p', 't', '-', 'm':
				n, numbers = numbers[0], numbers[1:]
			}
			count(c == 'p' && (n < 0 || n > 1048575) || c == 't' && (n < -1 || n > 1048575))
			if c == '#' || c == 'p' || c == 't' && n >= 0 {
				n += s.first
			}
			words = append(words, strconv.Itoa(n))
		}
		l = append(l, words)
	}
	if faults > 0 {
		return nil, api.ErrArg
	}
	return l, api.OK
}

// short is a sheet of which no more is told than a report can hold.
func short(s sheet) sheet {
	s.rows = s.rows[:min(len(s.rows), 8)]
	return s
}

// readIs holds what is read against what is wanted.
func readIs(t *testing.T, text string, want sheet, wantAt int, wantErr api.Errno) {
	t.Helper()
	if s, at, err := read(want.kind, text); !sameSheet(s, want) || at != wantAt || err != wantErr {
		t.Fatalf("of %q are read: %v.., %d, %v, want %v.., %d, %v",
			text[:min(len(text), 300)], short(s), at, err, short(want), wantAt, wantErr)
	}
}

// asked holds a text against the model, and tells how it is read.
func asked(t *testing.T, k kind, text string) api.Errno {
	t.Helper()
	s, at, err := modelRead(k, text)
	readIs(t, text, s, at, err)
	return err
}

// writeIs holds a sheet's text against the model, and tells what is written.
func writeIs(t *testing.T, s sheet) (string, api.Errno) {
	t.Helper()
	text := ""
	l, wantErr := modelLines(s)
	if wantErr == api.OK {
		text, wantErr = lines.Write(l)
	}
	got, err, kept := write(s)
	if got != text || err != wantErr {
		t.Fatalf("of %v.. is written: %q, %v, want %q, %v", short(s), got[:min(len(got), 300)], err, text[:min(len(text), 300)], wantErr)
	}
	if !kept {
		t.Fatalf("%v.. has changed while it was written", short(s))
	}
	return text, wantErr
}

// both holds a text that is as it is written against its sheet, both ways.
func both(t *testing.T, text string, s sheet) {
	t.Helper()
	readIs(t, text, s, 0, api.OK)
	asked(t, s.kind, text)
	if got, err := writeIs(t, s); got != text || err != api.OK {
		t.Errorf("of %v is written: %q, %v, want %q", s, got, err, text)
	}
}

// refused holds a text against where and why it is refused, with all else zero.
func refused(t *testing.T, k kind, text string, at int, err api.Errno) {
	t.Helper()
	readIs(t, text, sheet{kind: k}, at, err)
	asked(t, k, text)
}

// written holds a sheet against how it is written, or refused with nothing else.
func written(t *testing.T, s sheet, want api.Errno) {
	t.Helper()
	if text, err := writeIs(t, s); err != want || text == "" != (err != api.OK) {
		t.Errorf("of %v is written: %q, %v, want %v", short(s), text[:min(len(text), 300)], err, want)
	}
}
