package elefile_test

import (
	"math"
	"math/rand/v2"
	"strconv"
	"strings"
	"testing"

	"trivet/api"
	"trivet/elefile"
)

// refused holds a text against where and why it is refused, with all else zero.
func refused(t *testing.T, text string, at int, err api.Errno) {
	t.Helper()
	readIs(t, text, elefile.File{}, at, err)
	asked(t, text)
}

// First lines that are none such, at the text's first line and at a later one.
func TestFirstLine(t *testing.T) {
	for _, line := range []string{
		"0", "0 3", "3", "x", "0 3 0 0", "0 3 0 x", "0 3 0 0 0", "1 3 0 0",
		"0 0 0", "0 1 0", "0 2 0", "0 4 0", "0 5 0", "0 7 0", "0 -3 0", "0 -6 0", "0 03 0", "0 +3 0", "0 3b0 0", "0 3b1 0", "0 three 0", "0 36 0", "0 9223372036854775807 0",
		"-1 3 0", "-0 3 0", "00 3 0", "+0 3 0", "x 3 0", "0b0 3 0", "1.0 3 0", "-9223372036854775808 3 0",
		"0 3 -1", "0 3 -0", "0 3 01", "0 3 +1", "0 3 x", "0 3 1b0", "0 6 -9223372036854775808",
		"9223372036854775808 3 0", "0 3 9223372036854775808", "0 9223372036854775808 0",
	} {
		refused(t, line, 1, api.ErrForm)
		refused(t, "\n# head\n"+line+"\n1 1 2 3\n", 3, api.ErrForm)
	}
	for _, line := range []string{"1048577 3 0", "0 3 17", "1048577 6 17", "9223372036854775807 3 0", "0 6 9223372036854775807", "1048576 3 17", "1048577 3 16"} {
		refused(t, line, 1, api.ErrFull)
		refused(t, "\n# head\n"+line+"\n1 1 2 3\n", 3, api.ErrFull)
	}
}

// Words of a triangle's line that are no such numbers, at each place.
func TestWordsOfTriangles(t *testing.T) {
	for _, corners := range []int{3, 6} {
		first := "2 " + strconv.Itoa(corners) + " 2\n1" + strings.Repeat(" 1", corners+2) + "\n"
		line := func(at int, word string) string {
			words := strings.Fields("2" + strings.Repeat(" 1", corners+2))
			words[at] = word
			return first + strings.Join(words, " ")
		}
		for at := range 1 + corners + 2 {
			for _, word := range []string{"x", "+1", "01", "-0", "1.5", "1e5", "1B1", "b", "b1", "1b", "1b+1", "1b-0", "2b01", "-", "nan", "inf", "0x1", "9223372036854775808", strings.Repeat("1", 400)} {
				refused(t, line(at, word), 3, api.ErrForm)
			}
			for _, word := range []string{"1b0", "1b1", "3b-2", "0b0", "1b1024", "1b-1075"} { // no whole numbers
				if at <= corners {
					refused(t, line(at, word), 3, api.ErrForm)
				}
			}
			for _, word := range []string{"9007199254740993", "1b1024", "1b-1075", "9223372036854775807", "1b9223372036854775807", "-1b-9223372036854775808"} {
				if at > corners {
					refused(t, line(at, word), 3, api.ErrRange)
				}
			}
			for _, word := range []string{"0", "-1", "1048577", "-9223372036854775808", "9223372036854775807"} {
				if at > 0 && at <= corners {
					refused(t, line(at, word), 3, api.ErrIndex)
				}
			}
		}
	}
}

// Lines of triangles with another count of words than 1, Corners and Attrs.
func TestCountOfWords(t *testing.T) {
	for attrs := range 17 {
		for _, corners := range []int{3, 6} {
			first := "1 " + strconv.Itoa(corners) + " " + strconv.Itoa(attrs) + "\n"
			for count := 1; count <= 25; count++ {
				text := first + "1" + strings.Repeat(" 1", count-1)
				if count != 1+corners+attrs {
					refused(t, text, 2, api.ErrForm)
				} else if err := asked(t, text); err != api.OK {
					t.Errorf("%q: %v", text, err)
				}
			}
		}
	}
}

// Numbers that begin with neither 0 nor 1, or do not follow one another.
func TestOrderOfNumbers(t *testing.T) {
	for _, x := range []struct {
		numbers string
		at      int
	}{
		{"2 3 4", 2}, {"-1 0 1", 2}, {"3 4 5", 2}, {"-9223372036854775808 0 0", 2}, {"9223372036854775807 0 0", 2},
		{"0 0 1", 3}, {"0 2 3", 3}, {"0 -1 2", 3}, {"1 1 2", 3}, {"1 3 4", 3}, {"1 0 1", 3}, {"1 0 2", 3}, {"1 -9223372036854775808 2", 3},
		{"0 1 1", 4}, {"0 1 3", 4}, {"0 1 0", 4}, {"1 2 2", 4}, {"1 2 4", 4}, {"1 2 1", 4}, {"1 2 0", 4}, {"0 1 9223372036854775807", 4},
	} {
		refused(t, "3 3 0\n"+strings.Join(strings.Fields(x.numbers), " 1 1 1\n")+" 1 1 1", x.at, api.ErrForm)
	}
}

// Of two faults the one that comes first by the chapter's table.
func TestFirstFaultRead(t *testing.T) {
	for _, x := range []struct {
		text string
		at   int
		err  api.Errno
	}{
		// The form of the first line comes ahead of what it says.
		{"1048577 4 0", 1, api.ErrForm}, {"1048577 3 x", 1, api.ErrForm}, {"1048577 3", 1, api.ErrForm}, {"1048577 3 -1", 1, api.ErrForm},
		{"x 3 17", 1, api.ErrForm}, {"-1 3 17", 1, api.ErrForm}, {"0 4 17", 1, api.ErrForm}, {"0 3 17 0", 1, api.ErrForm}, {"1048577 5 17", 1, api.ErrForm},
		// The first line comes ahead of all others, and lines come in their order.
		{"1048577 3 0\nx", 1, api.ErrFull}, {"0 3 17\nx", 1, api.ErrFull}, {"2 3 0\n1 0 1 1\nx", 2, api.ErrIndex}, {"2 3 0\n1 0 1 1", 2, api.ErrIndex},
		{"2 3 0\nx\n2 0 1 1", 2, api.ErrForm}, {"2 3 0\n2 1 1 1", 2, api.ErrForm}, {"3 3 0\n1 1 1 1\n2 0 1 1", 3, api.ErrIndex},
		{"2 3 1\n1 1 1 1 1b2000\n2 0 1 1 1", 2, api.ErrRange}, {"2 3 1\n1 0 1 1 1\n2 1 1 1 1b2000", 2, api.ErrIndex},
		// A line more comes behind those ahead of it, whatever is wrong with it.
		{"1 3 0\n1 0 1 1\n2 1 1 1", 2, api.ErrIndex}, {"1 3 1\n1 1 1 1 1b2000\nx", 2, api.ErrRange}, {"1 3 0\n1 1 1 1\n2 0 1 1", 3, api.ErrForm},
		{"0 3 17\n1 1 1 1", 1, api.ErrFull},
		// A line too few comes behind all that is wrong with those that are there.
		{"3 3 1\n1 1 1 1 1\n2 1 1 1 1b2000", 3, api.ErrRange}, {"3 3 0\n1 1 1 1\n3 1 1 1", 3, api.ErrForm},
		// In a line its count of words, its whole numbers and its own number come ahead
		// of what they say, whichever stands first.
		{"1 3 0\n1 0 1 1 1", 2, api.ErrForm}, {"1 3 0\n1 0 1", 2, api.ErrForm}, {"1 3 1\n1 0 1 1", 2, api.ErrForm}, {"1 3 1\n1 0 1 1 1b2000 1", 2, api.ErrForm},
		{"1 3 1\n1 1 1 1 1b2000 1", 2, api.ErrForm}, {"1 3 2\n1 1 1 1 1b2000", 2, api.ErrForm},
		{"1 3 0\n1 0 x 1", 2, api.ErrForm}, {"1 3 0\n1 0 1 x", 2, api.ErrForm}, {"1 3 0\n1 0 1048577 01", 2, api.ErrForm}, {"1 6 0\n1 0 1 1 1 1 x", 2, api.ErrForm},
		{"1 3 0\n2 0 1 1", 2, api.ErrForm}, {"1 3 1\n2 1 1 1 1b2000", 2, api.ErrForm}, {"2 3 0\n1 1 1 1\n1 0 1 1", 3, api.ErrForm},
		// Words come in their order: corners ahead of attributes.
		{"1 3 1\n1 0 1 1 x", 2, api.ErrIndex}, {"1 3 1\n1 1 1 0 x", 2, api.ErrIndex}, {"1 3 1\n1 1 1 1048577 1b2000", 2, api.ErrIndex},
		{"1 3 2\n1 1 1 1 x 1b2000", 2, api.ErrForm}, {"1 3 2\n1 1 1 1 1b2000 x", 2, api.ErrRange}, {"1 3 3\n1 1 1 1 1 1b2000 x", 2, api.ErrRange},
	} {
		refused(t, x.text, x.at, x.err)
	}
}

// What lines.Read refuses comes ahead of all else, with its line.
func TestRefusedByLines(t *testing.T) {
	long := "1 3 0" + strings.Repeat(" ", api.MaxLine)
	for _, x := range []struct {
		text string
		at   int
		err  api.Errno
	}{
		{"\x01", 1, api.ErrForm}, {"x\n0 3 0\n\x7f", 3, api.ErrForm}, {"0 3 17\n\n1\x002", 3, api.ErrForm}, {"\n\n\x01", 3, api.ErrForm},
		{long, 1, api.ErrFull}, {"0 3 0\n" + long, 2, api.ErrFull}, {"x\n\n" + long, 3, api.ErrFull},
		{"0 3 0\n" + strings.Repeat("1", api.MaxNumber+1), 2, api.ErrForm},
		{"0 3 0" + strings.Repeat("\n", api.MaxText), 0, api.ErrFull}, {strings.Repeat("x\n", api.MaxText/2) + "\n", 0, api.ErrFull},
	} {
		refused(t, x.text, x.at, x.err)
	}
	readIs(t, "0 3 0"+strings.Repeat("\n", api.MaxText-5), elefile.File{Corners: 3}, 0, api.OK)
}

func goodFile() elefile.File {
	return elefile.File{First: 1, Corners: 3, Attrs: 2, L: []elefile.Row{row(0, 1, 2, 3, 4), row(2, 1, 3, 5, 6), row(3, 1, 4, -7, -8)}}
}

// Each fault of a file at each triangle, and two of them.
func TestWrongFiles(t *testing.T) {
	type spoil = func(f *elefile.File, at int)
	corner := func(n int) spoil { return func(f *elefile.File, at int) { f.L[at].T[at] = n } }
	attr := func(x float64) spoil { return func(f *elefile.File, at int) { f.L[at].A[at%2] = x } }
	kinds := map[string]spoil{
		"corner -1":         corner(-1),
		"corner MaxPoints":  corner(1048576),
		"least corner":      corner(math.MinInt64),
		"greatest corner":   corner(math.MaxInt64),
		"NaN":               attr(math.NaN()),
		"Inf":               attr(math.Inf(1)),
		"-Inf":              attr(math.Inf(-1)),
		"First 2":           func(f *elefile.File, _ int) { f.First = 2 },
		"First -1":          func(f *elefile.File, _ int) { f.First = -1 },
		"greatest First":    func(f *elefile.File, _ int) { f.First = math.MaxInt64 },
		"Attrs 3":           func(f *elefile.File, _ int) { f.Attrs = 3 },
		"Attrs 1":           func(f *elefile.File, _ int) { f.Attrs = 1 },
		"Attrs -2":          func(f *elefile.File, _ int) { f.Attrs = -2 },
		"Corners 6":         func(f *elefile.File, _ int) { f.Corners = 6 },
		"Corners 0":         func(f *elefile.File, _ int) { f.Corners = 0 },
		"Corners -3":        func(f *elefile.File, _ int) { f.Corners = -3 },
		"Corners 4":         func(f *elefile.File, _ int) { f.Corners = 4 },
		"no attributes":     func(f *elefile.File, at int) { f.L[at].A = nil },
		"one attribute":     func(f *elefile.File, at int) { f.L[at].A = f.L[at].A[:1] },
		"three attributes":  func(f *elefile.File, at int) { f.L[at].A = []float64{1, 2, 3} },
		"no corners":        func(f *elefile.File, at int) { f.L[at].T = nil },
		"two corners":       func(f *elefile.File, at int) { f.L[at].T = f.L[at].T[:2] },
		"four corners":      func(f *elefile.File, at int) { f.L[at].T = []int{0, 1, 2, 3} },
		"six corners":       func(f *elefile.File, at int) { f.L[at].T = []int{0, 1, 2, 3, 4, 5} },
		"nothing":           func(f *elefile.File, at int) { f.L[at] = elefile.Row{} },
		"all have 4":        func(f *elefile.File, _ int) { allWith(f, 4, 2) },
		"all have 17 attrs": func(f *elefile.File, _ int) { allWith(f, 3, 17) },
	}
	if _, err := writeIs(t, goodFile()); err != api.OK {
		t.Fatal("Write of a good file:", err)
	}
	for name, one := range kinds {
		for at := range 3 {
			f := goodFile()
			one(&f, at)
			if text, err := writeIs(t, f); text != "" || err != api.ErrArg {
				t.Errorf("%s at %d: %q, %v", name, at, text, err)
			}
		}
	}
}

// allWith gives each triangle that many corners and attributes, and says so.
func allWith(f *elefile.File, corners, attrs int) {
	f.Corners, f.Attrs = corners, attrs
	for i := range f.L {
		f.L[i] = elefile.Row{T: make([]int, corners), A: make([]float64, attrs)}
	}
}

// P11.2, on drawn files with drawn faults.
func TestDrawnWrongFiles(t *testing.T) {
	r := rand.New(rand.NewPCG(11, 4))
	kinds := map[api.Errno]int{}
	for range 20000 {
		f := drawnFile(r)
		for range r.IntN(3) {
			spoilFile(r, &f)
		}
		_, err := writeIs(t, f)
		kinds[err]++
	}
	if kinds[api.OK] < 3000 || kinds[api.ErrArg] < 3000 {
		t.Error("of the kinds there are", kinds)
	}
}

func spoilFile(r *rand.Rand, f *elefile.File) {
	drawn := math.Float64frombits(r.Uint64())
	odd := []float64{math.NaN(), math.Inf(1), math.Inf(-1), math.Copysign(0, -1), drawn}[r.IntN(5)]
	number := []int{-1, 1 << 20, 1<<20 - 1, 0, int(r.Uint64())}[r.IntN(5)]
	kind := r.IntN(8)
	switch {
	case kind == 0:
		f.Attrs = r.IntN(20) - 2
	case kind == 1:
		f.First = r.IntN(4) - 1
	case kind == 2:
		f.Corners = r.IntN(9) - 1
	case len(f.L) == 0:
	default:
		one := &f.L[r.IntN(len(f.L))]
		switch {
		case kind < 5:
			one.T[r.IntN(len(one.T))] = number
		case kind < 7 && len(one.A) > 0:
			one.A[r.IntN(len(one.A))] = odd
		default:
			*one = drawnRow(r, 3+3*r.IntN(2), len(one.A)+r.IntN(2))
		}
	}
}
