package elefile_test

import (
	"math"
	"math/big"
	"math/rand/v2"
	"regexp"
	"slices"
	"strconv"
	"strings"
	"testing"

	"trivet/api"
	"trivet/elefile"
	"trivet/lines"
)

var (
	firstForm = regexp.MustCompile(`\A(0|[1-9][0-9]*) ([36]) (0|[1-9][0-9]*)\z`)
	wholeForm = regexp.MustCompile(`\A(0|-?[1-9][0-9]*)\z`)
	floatForm = regexp.MustCompile(`\A(0|-?[1-9][0-9]*)(b(0|-?[1-9][0-9]*))?\z`)
)

// modelInt is a whole number of R7, reckoned without bounds and then held
// against them.
func modelInt(word string) (int, bool) {
	if !wholeForm.MatchString(word) {
		return 0, false
	}
	n, _ := new(big.Int).SetString(word, 10)
	return int(n.Int64()), n.IsInt64()
}

// modelFloat reckons n times 2^e as a fraction.
func modelFloat(word string) (float64, api.Errno) {
	parts := floatForm.FindStringSubmatch(word)
	if parts == nil || len(word) > 400 {
		return 0, api.ErrForm
	}
	e := 0
	n, fits := modelInt(parts[1])
	if parts[3] != "" && fits {
		e, fits = modelInt(parts[3])
	}
	switch {
	case !fits:
		return 0, api.ErrForm
	case n == 0:
		return 0, api.OK
	case e > 3000 || e < -3000:
		return 0, api.ErrRange
	}
	power := new(big.Rat).SetInt(new(big.Int).Lsh(big.NewInt(1), uint(max(e, -e))))
	if e < 0 {
		power.Inv(power)
	}
	x, just := new(big.Rat).Mul(new(big.Rat).SetInt64(int64(n)), power).Float64()
	if !just {
		return 0, api.ErrRange
	}
	return x, api.OK
}

// modelRead asks an expression about the first line whole, and knows each further
// word by its place.
func modelRead(text string) (elefile.File, int, api.Errno) {
	none := func(at int, err api.Errno) (elefile.File, int, api.Errno) { return elefile.File{}, at, err }
	l, at, err := lines.Read(text)
	if err != api.OK {
		return none(at, err)
	}
	if len(l) == 0 {
		return none(0, api.ErrForm)
	}
	parts := firstForm.FindStringSubmatch(strings.Join(l[0].Words, " "))
	if parts == nil {
		return none(l[0].No, api.ErrForm)
	}
	count, countFits := modelInt(parts[1])
	attrs, attrsFit := modelInt(parts[3])
	switch {
	case !countFits || !attrsFit:
		return none(l[0].No, api.ErrForm)
	case count > 1048576 || attrs > 16:
		return none(l[0].No, api.ErrFull)
	}
	f := elefile.File{Corners: 3, Attrs: attrs}
	if parts[2] == "6" {
		f.Corners = 6
	}
	for i, line := range l[1:] {
		if i == 0 && line.Words[0] != "0" {
			f.First = 1
		}
		if i >= count || line.Words[0] != strconv.Itoa(f.First+i) {
			return none(line.No, api.ErrForm)
		}
		row, err := modelRow(line.Words[1:], f)
		if err != api.OK {
			return none(line.No, err)
		}
		f.L = append(f.L, row)
	}
	if len(f.L) != count {
		return none(0, api.ErrForm)
	}
	return f, 0, api.OK
}

// modelRow is the triangle of what stands behind its number.
func modelRow(words []string, f elefile.File) (elefile.Row, api.Errno) {
	var row elefile.Row
	if len(words) != f.Corners+f.Attrs {
		return row, api.ErrForm
	}
	outside := 0
	for _, word := range words[:f.Corners] {
		n, fits := modelInt(word)
		if !fits {
			return elefile.Row{}, api.ErrForm
		}
		if far := new(big.Int).Sub(big.NewInt(int64(n)), big.NewInt(int64(f.First))); far.Sign() < 0 || far.BitLen() > 20 {
			outside++
		}
		row.T = append(row.T, n-f.First)
	}
	if outside > 0 {
		return elefile.Row{}, api.ErrIndex
	}
	for _, word := range words[f.Corners:] {
		x, err := modelFloat(word)
		if err != api.OK {
			return elefile.Row{}, err
		}
		row.A = append(row.A, x)
	}
	return row, api.OK
}

// modelText is a float's text by the library's own writing of its bits.
func modelText(x float64) string {
	switch {
	case !(math.Abs(x) <= math.MaxFloat64):
		return ""
	case x == math.Trunc(x) && math.Abs(x) < 1<<53:
		return strconv.FormatFloat(x+0, 'f', 0, 64) // -0 and 0 are 0
	}
	n, e, _ := strings.Cut(strconv.FormatFloat(x, 'b', -1, 64), "p")
	size, _ := strconv.ParseInt(n, 10, 64)
	power, _ := strconv.Atoi(e)
	for ; size%2 == 0; size /= 2 {
		power++
	}
	return strconv.FormatInt(size, 10) + "b" + strconv.Itoa(power)
}

// modelLines counts the faults of a file, and tells its lines if there are none.
func modelLines(f elefile.File) ([][]string, api.Errno) {
	faults := 0
	count := func(wrong bool) {
		if wrong {
			faults++
		}
	}
	count(f.First != 0 && f.First != 1)
	count(f.Corners != 3 && f.Corners != 6)
	count(f.Attrs < 0 || f.Attrs > 16)
	count(len(f.L) > 1048576)
	l := [][]string{{strconv.Itoa(len(f.L)), strconv.Itoa(f.Corners), strconv.Itoa(f.Attrs)}}
	for i, row := range f.L {
		count(len(row.T) != f.Corners || len(row.A) != f.Attrs)
		words := []string{strconv.Itoa(f.First + i)}
		for _, n := range row.T {
			count(n < 0 || n > 1048575)
			words = append(words, strconv.Itoa(n+f.First))
		}
		for _, x := range row.A {
			count(!(math.Abs(x) <= math.MaxFloat64))
			words = append(words, modelText(x))
		}
		l = append(l, words)
	}
	if faults > 0 {
		return nil, api.ErrArg
	}
	return l, api.OK
}

// sameFloats holds floats against each other to the last bit, so that 0 is no -0.
func sameFloats(a, b []float64) bool {
	return slices.EqualFunc(a, b, func(x, y float64) bool { return math.Float64bits(x) == math.Float64bits(y) })
}

func sameRow(a, b elefile.Row) bool { return slices.Equal(a.T, b.T) && sameFloats(a.A, b.A) }

func sameFile(a, b elefile.File) bool {
	return a.First == b.First && a.Corners == b.Corners && a.Attrs == b.Attrs && slices.EqualFunc(a.L, b.L, sameRow)
}

// short is a file of which no more is told than a report can hold.
func short(f elefile.File) elefile.File {
	f.L = f.L[:min(len(f.L), 8)]
	return f
}

// readIs holds what is read against what is wanted, and looks whether rows have
// room to spare.
func readIs(t *testing.T, text string, want elefile.File, wantAt int, wantErr api.Errno) {
	t.Helper()
	f, at, err := elefile.Read(text)
	if !sameFile(f, want) || at != wantAt || err != wantErr {
		t.Fatalf("Read of %q: %v.., %d, %v, want %v.., %d, %v",
			text[:min(len(text), 300)], short(f), at, err, short(want), wantAt, wantErr)
	}
	for i, row := range f.L {
		if cap(row.T) != len(row.T) || cap(row.A) != len(row.A) {
			t.Fatalf("triangle %d of %q has room for %d corners and %d attributes", i, text[:min(len(text), 300)], cap(row.T), cap(row.A))
		}
	}
}

// asked holds a text against the model, and tells how it is read.
func asked(t *testing.T, text string) api.Errno {
	t.Helper()
	f, at, err := modelRead(text)
	readIs(t, text, f, at, err)
	return err
}

// writeIs holds a file's text against the model, and looks whether the file, with
// the room behind its ends, is left as it was (R3); it tells what is written.
func writeIs(t *testing.T, f elefile.File) (string, api.Errno) {
	t.Helper()
	kept := slices.Clone(f.L[:cap(f.L)])
	for i, row := range kept {
		kept[i] = elefile.Row{T: slices.Clone(row.T[:cap(row.T)]), A: slices.Clone(row.A[:cap(row.A)])}
	}
	text := ""
	l, wantErr := modelLines(f)
	if wantErr == api.OK {
		text, wantErr = lines.Write(l)
	}
	if got, err := elefile.Write(f); got != text || err != wantErr {
		t.Fatalf("Write of %v..: %q, %v, want %q, %v", short(f), got[:min(len(got), 300)], err, text[:min(len(text), 300)], wantErr)
	}
	for i, row := range f.L[:cap(f.L)] {
		if !sameRow(kept[i], elefile.Row{T: row.T[:cap(row.T)], A: row.A[:cap(row.A)]}) {
			t.Fatalf("triangle %d of what is written has changed", i)
		}
	}
	return text, wantErr
}

// drawnFloat is any finite one but -0.
func drawnFloat(r *rand.Rand) float64 {
	x := math.Float64frombits(r.Uint64())
	switch kind := r.IntN(5); {
	case kind == 0 || math.IsNaN(x) || math.IsInf(x, 0):
		return float64(r.IntN(9) - 4)
	case kind == 1:
		return float64(r.Int64N(1<<54) - 1<<53)
	case kind == 2:
		return math.Ldexp(float64(r.IntN(1<<20)), r.IntN(200)-100)
	}
	return x + 0
}

// drawnCorner is a number that may be, often one at the ends of those.
func drawnCorner(r *rand.Rand) int {
	switch r.IntN(4) {
	case 0:
		return r.IntN(1 << 20)
	case 1:
		return []int{0, 1, 1<<20 - 2, 1<<20 - 1}[r.IntN(4)]
	}
	return r.IntN(12)
}

func drawnRow(r *rand.Rand, corners, attrs int) elefile.Row {
	var row elefile.Row
	for range corners {
		row.T = append(row.T, drawnCorner(r))
	}
	for range attrs {
		row.A = append(row.A, drawnFloat(r))
	}
	return row
}

// drawnFile is one that may be, with no -0 in it; without triangles its First is 0.
func drawnFile(r *rand.Rand) elefile.File {
	f := elefile.File{Corners: 3 + 3*r.IntN(2)}
	if r.IntN(2) == 0 {
		f.Attrs = r.IntN(17)
	}
	for range r.IntN(6) {
		f.L = append(f.L, drawnRow(r, f.Corners, f.Attrs))
	}
	if len(f.L) > 0 {
		f.First = r.IntN(2)
	}
	return f
}

func drawnBlanks(r *rand.Rand, least int) string {
	blanks := ""
	for range least + r.IntN(3) {
		blanks += []string{" ", "\t", "\r"}[r.IntN(3)]
	}
	return blanks
}

// drawnRemark has any bytes but 0A; most lines have none.
func drawnRemark(r *rand.Rand) string {
	if r.IntN(3) > 0 {
		return ""
	}
	remark := []byte("#")
	for range r.IntN(12) {
		if c := byte(r.IntN(256)); c != 0x0a {
			remark = append(remark, c)
		}
	}
	return string(remark)
}

// widened are lines as a text, with drawn blanks, remarks and lines without words
// between, and the number of each in the text.
func widened(r *rand.Rand, l [][]string) (string, []int) {
	var all []string
	var at []int
	empty := func() {
		for range r.IntN(3) {
			all = append(all, drawnBlanks(r, 0)+drawnRemark(r))
		}
	}
	for _, words := range l {
		empty()
		line := drawnBlanks(r, 0)
		for i, word := range words {
			if i > 0 {
				line += drawnBlanks(r, 1)
			}
			line += word
		}
		all = append(all, line+drawnBlanks(r, 0)+drawnRemark(r))
		at = append(at, len(all))
	}
	empty()
	return strings.Join(all, "\n") + strings.Repeat("\n", r.IntN(3)), at
}

// plain are lines as a text with nothing between.
func plain(l [][]string) string {
	text := ""
	for _, words := range l {
		text += strings.Join(words, " ") + "\n"
	}
	return text
}
