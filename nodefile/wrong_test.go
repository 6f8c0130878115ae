package nodefile_test

import (
	"math"
	"math/rand/v2"
	"strings"
	"testing"

	"trivet/api"
	"trivet/lines"
	"trivet/nodefile"
)

// refused holds a text, read and taken, against where and why it is refused.
func refused(t *testing.T, text string, at int, err api.Errno) {
	t.Helper()
	readIs(t, text, nodefile.File{}, at, err)
	asked(t, text)
	if l, _, wrong := lines.Read(text); wrong == api.OK {
		takeIs(t, l, nodefile.File{}, 0, at, err)
	}
}

// First lines that are none such, at the text's first line and at a later one.
func TestFirstLine(t *testing.T) {
	for _, line := range []string{
		"0", "0 2", "0 2 0", "0 2 0 0 0", "0 2 0 0 0 0", "0 2 0 0 x", "x", "2",
		"0 1 0 0", "0 3 0 0", "0 0 0 0", "0 -2 0 0", "0 02 0 0", "0 +2 0 0", "0 2b0 0 0", "0 1b1 0 0", "0 two 0 0",
		"-1 2 0 0", "-0 2 0 0", "00 2 0 0", "+0 2 0 0", "x 2 0 0", "0b0 2 0 0", "1.0 2 0 0", "-9223372036854775808 2 0 0",
		"0 2 -1 0", "0 2 -0 0", "0 2 01 0", "0 2 +1 0", "0 2 x 0", "0 2 1b0 0", "0 2 -9223372036854775808 0",
		"0 2 0 2", "0 2 0 -1", "0 2 0 -0", "0 2 0 01", "0 2 0 00", "0 2 0 +1", "0 2 0 x", "0 2 0 1b0", "0 2 0 true", "0 2 0 9223372036854775807",
		"9223372036854775808 2 0 0", "0 2 9223372036854775808 0", "0 2 0 9223372036854775808",
	} {
		refused(t, line, 1, api.ErrForm)
		refused(t, "\n# head\n"+line+"\n1 0 0\n", 3, api.ErrForm)
	}
	for _, line := range []string{"1048577 2 0 0", "0 2 17 0", "1048577 2 17 1", "9223372036854775807 2 0 0", "0 2 9223372036854775807 1", "1048576 2 17 0", "1048577 2 16 0"} {
		refused(t, line, 1, api.ErrFull)
		refused(t, "\n# head\n"+line+"\n1 0 0\n", 3, api.ErrFull)
	}
}

// Words of a node's line that are no such numbers, at each place.
func TestWordsOfNodes(t *testing.T) {
	const first = "2 2 2 1\n1 0 0 0 0 0\n"
	for _, word := range []string{"x", "+1", "01", "-0", "1.5", "1e5", "1B1", "b", "b1", "1b", "1b+1", "1b-0", "2b01", "-", "nan", "inf", "0x1", "9223372036854775808", strings.Repeat("1", 400)} {
		for at := range 6 {
			words := strings.Fields("2 0 0 0 0 0")
			words[at] = word
			refused(t, first+strings.Join(words, " "), 3, api.ErrForm)
		}
	}
	for _, word := range []string{"1b0", "1b1", "3b-2", "0b0"} { // floats, and no whole numbers
		refused(t, first+word+" 0 0 0 0 0", 3, api.ErrForm)
		refused(t, first+"2 0 0 0 0 "+word, 3, api.ErrForm)
	}
	for _, word := range []string{"9007199254740993", "1b1024", "1b-1075", "9223372036854775807", "1b9223372036854775807", "-1b-9223372036854775808"} {
		for at := 1; at <= 4; at++ {
			words := strings.Fields("2 0 0 0 0 0")
			words[at] = word
			refused(t, first+strings.Join(words, " "), 3, api.ErrRange)
		}
	}
	for _, word := range []string{"1b101", "-1b101", "1b-101", "-1b-101", "1b1023", "1b-1074", "3b-101", "3b99"} {
		refused(t, first+"2 "+word+" 0 0 0 0", 3, api.ErrRange)
		refused(t, first+"2 0 "+word+" 0 0 0", 3, api.ErrRange)
		if err := asked(t, first+"2 0 0 "+word+" "+word+" 0"); err != api.OK {
			t.Errorf("an attribute %s: %v", word, err)
		}
	}
}

// Lines of nodes with another count of words than 3 and Attrs, and one with Marks.
func TestCountOfWords(t *testing.T) {
	for attrs := range 17 {
		for marks := range 2 {
			first := "1 2 " + modelText(float64(attrs)) + " " + modelText(float64(marks)) + "\n"
			for count := 1; count <= 22; count++ {
				text := first + "1" + strings.Repeat(" 1", count-1)
				if count != 3+attrs+marks {
					refused(t, text, 2, api.ErrForm)
				} else if err := asked(t, text); err != api.OK {
					t.Errorf("%q: %v", text, err)
				}
			}
		}
	}
	l := []lines.Line{{No: 1, Words: []string{"1", "2", "0", "0"}}, {No: 2}}
	takeIs(t, l, nodefile.File{}, 0, 2, api.ErrForm)
	takeIs(t, []lines.Line{{No: 3}}, nodefile.File{}, 0, 3, api.ErrForm)
}

// Numbers that begin with neither 0 nor 1, or do not follow one another.
func TestOrderOfNumbers(t *testing.T) {
	for _, x := range []struct {
		numbers string
		at      int
	}{
		{"2 3 4", 2}, {"-1 0 1", 2}, {"3 4 5", 2}, {"-9223372036854775808 0 0", 2}, {"9223372036854775807 0 0", 2},
		{"0 0 1", 3}, {"0 2 3", 3}, {"0 -1 2", 3}, {"1 1 2", 3}, {"1 3 4", 3}, {"1 0 1", 3}, {"1 0 2", 3}, {"1 -9223372036854775808 2", 3},
		{"0 1 1", 4}, {"0 1 3", 4}, {"0 1 0", 4}, {"1 2 2", 4}, {"1 2 4", 4}, {"1 2 1", 4}, {"1 2 0", 4}, {"0 1 9223372036854775807", 4},
	} {
		refused(t, "3 2 0 0\n"+strings.Join(strings.Fields(x.numbers), " 0 0\n")+" 0 0", x.at, api.ErrForm)
	}
}

// Of two faults the one that comes first by the chapter's table.
func TestFirstFaultRead(t *testing.T) {
	for _, x := range []struct {
		text string
		at   int
		err  api.Errno
	}{
		// The form of the first line comes ahead of what it says.
		{"1048577 2 0 2", 1, api.ErrForm}, {"1048577 3 0 0", 1, api.ErrForm}, {"1048577 2 x 0", 1, api.ErrForm}, {"1048577 2 0", 1, api.ErrForm},
		{"x 2 17 0", 1, api.ErrForm}, {"0 2 17 x", 1, api.ErrForm}, {"1048577 2 17 5", 1, api.ErrForm},
		// The first line comes ahead of all others, and lines come in their order.
		{"1048577 2 0 0\nx", 1, api.ErrFull}, {"2 2 0 0\n1 1b101 0\nx", 2, api.ErrRange}, {"2 2 0 0\n1 1b101 0", 2, api.ErrRange},
		{"2 2 0 0\nx\n2 1b101 0", 2, api.ErrForm}, {"2 2 0 0\n2 0 0", 2, api.ErrForm}, {"3 2 0 0\n1 0 0\n2 1b101 0", 3, api.ErrRange},
		// A count of words comes ahead of the words.
		{"1 2 0 0\n1 1b101 0 0", 2, api.ErrForm}, {"1 2 0 0\n1 1b2000", 2, api.ErrForm}, {"1 2 0 1\n1 1b2000 0", 2, api.ErrForm},
		// Words come in their order, and the point behind Y.
		{"1 2 0 0\n2 1b2000 0", 2, api.ErrForm}, {"1 2 0 0\n1 1b2000 x", 2, api.ErrRange}, {"1 2 0 0\n1 x 1b2000", 2, api.ErrForm},
		{"1 2 0 0\n1 1b101 x", 2, api.ErrForm}, {"1 2 0 0\n1 1b-101 1b2000", 2, api.ErrRange}, {"1 2 1 0\n1 1b101 0 x", 2, api.ErrRange},
		{"1 2 1 0\n1 0 1b101 x", 2, api.ErrRange}, {"1 2 2 0\n1 0 0 x 1b2000", 2, api.ErrForm}, {"1 2 2 0\n1 0 0 1b2000 x", 2, api.ErrRange},
		{"1 2 1 1\n1 0 0 1b2000 x", 2, api.ErrRange}, {"1 2 1 1\n1 0 0 x y", 2, api.ErrForm}, {"1 2 0 1\n1 0 1b101 x", 2, api.ErrRange},
		{"1 2 0 1\n2 0 1b101 x", 2, api.ErrForm},
	} {
		refused(t, x.text, x.at, x.err)
	}
	// A line more comes behind all that is wrong with the others.
	for text, at := range map[string]int{"1 2 0 0\n1 1b101 0\n2 0 0": 2, "2 2 0 0\n1 0 0\n2 1b101 0\nx": 3} {
		refused(t, text, at, api.ErrRange)
	}
	refused(t, "0 2 17 0\n1 0 0", 1, api.ErrFull)
}

// What lines.Read refuses comes ahead of all else, with its line.
func TestRefusedByLines(t *testing.T) {
	long := "1 2 0 0" + strings.Repeat(" ", api.MaxLine)
	for _, x := range []struct {
		text string
		at   int
		err  api.Errno
	}{
		{"\x01", 1, api.ErrForm}, {"x\n0 2 0 0\n\x7f", 3, api.ErrForm}, {"0 2 17 0\n\n1\x002", 3, api.ErrForm},
		{long, 1, api.ErrFull}, {"0 2 0 0\n" + long, 2, api.ErrFull}, {"x\n\n" + long, 3, api.ErrFull},
		{"0 2 0 0\n" + strings.Repeat("1", api.MaxNumber+1), 2, api.ErrForm},
		{"0 2 0 0" + strings.Repeat("\n", api.MaxText), 0, api.ErrFull}, {strings.Repeat("x\n", api.MaxText/2) + "\n", 0, api.ErrFull},
	} {
		readIs(t, x.text, nodefile.File{}, x.at, x.err)
	}
	readIs(t, "0 2 0 0"+strings.Repeat("\n", api.MaxText-7), nodefile.File{}, 0, api.OK)
}

// Words that no text has: lines come from anywhere.
func TestTakeOfAnyWords(t *testing.T) {
	good := []string{"1", "0", "0"}
	for _, word := range []string{"", " ", "1 ", " 1", "1\n", "1#", "\x00", "\xff", "１", "1 2", strings.Repeat("1", 1000), strings.Repeat("0", 1000), "0b" + strings.Repeat("1", 1000)} {
		for at := range 4 {
			first := []string{"1", "2", "0", "0"}
			first[at] = word
			takeIs(t, []lines.Line{{No: -3, Words: first}, {No: 5, Words: good}}, nodefile.File{}, 0, -3, api.ErrForm)
		}
		for at := range 3 {
			words := []string{"1", "0", "0"}
			words[at] = word
			takeIs(t, []lines.Line{{No: 1, Words: []string{"1", "2", "0", "0"}}, {No: -8, Words: words}}, nodefile.File{}, 0, -8, api.ErrForm)
		}
	}
}

// wrongFiles are files that may not be for one thing alone, each with its error.
func wrongFiles() map[string]struct {
	spoil func(f *nodefile.File, at int)
	err   api.Errno
} {
	type spoil = func(f *nodefile.File, at int)
	type kind = struct {
		spoil func(f *nodefile.File, at int)
		err   api.Errno
	}
	attr := func(x float64) spoil { return func(f *nodefile.File, at int) { f.Nodes[at].Attr[at%2] = x } }
	x := func(x float64) spoil { return func(f *nodefile.File, at int) { f.Nodes[at].P.X = x } }
	y := func(y float64) spoil { return func(f *nodefile.File, at int) { f.Nodes[at].P.Y = y } }
	return map[string]kind{
		"no attributes":   {func(f *nodefile.File, at int) { f.Nodes[at].Attr = nil }, api.ErrArg},
		"too few":         {func(f *nodefile.File, at int) { f.Nodes[at].Attr = []float64{1} }, api.ErrArg},
		"too many":        {func(f *nodefile.File, at int) { f.Nodes[at].Attr = []float64{1, 2, 3} }, api.ErrArg},
		"NaN":             {attr(math.NaN()), api.ErrArg},
		"Inf":             {attr(math.Inf(1)), api.ErrArg},
		"-Inf":            {attr(math.Inf(-1)), api.ErrArg},
		"mark":            {func(f *nodefile.File, at int) { f.Nodes[at].Mark = 1 }, api.ErrArg},
		"x NaN":           {x(math.NaN()), api.ErrRange},
		"y NaN":           {y(math.NaN()), api.ErrRange},
		"x Inf":           {x(math.Inf(1)), api.ErrRange},
		"y -Inf":          {y(math.Inf(-1)), api.ErrRange},
		"x too great":     {x(0x1.0000000000001p100), api.ErrRange},
		"y too great":     {y(-0x1p101), api.ErrRange},
		"x too fine":      {x(0x1p-101), api.ErrRange},
		"y too fine":      {y(0x1.8p-100), api.ErrRange},
		"x least":         {x(math.SmallestNonzeroFloat64), api.ErrRange},
		"y greatest":      {y(math.MaxFloat64), api.ErrRange},
		"more attributes": {func(f *nodefile.File, _ int) { f.Attrs = 3 }, api.ErrArg},
		"less":            {func(f *nodefile.File, _ int) { f.Attrs = 1 }, api.ErrArg},
		"below 0":         {func(f *nodefile.File, _ int) { f.Attrs = -2 }, api.ErrArg},
	}
}

func goodFile() nodefile.File {
	return nodefile.File{Attrs: 2, Nodes: []api.Node{node(1, 2, 0, 3, 4), node(5, 6, 0, 7, 8), node(-1, -2, 0, -3, -4)}}
}

// Each fault of a file at each node; and two of them, at any nodes: ErrArg comes
// ahead of ErrRange.
func TestWrongFiles(t *testing.T) {
	kinds := wrongFiles()
	for name, one := range kinds {
		for at := range 3 {
			f := goodFile()
			one.spoil(&f, at)
			if _, err := putIs(t, f); err != one.err {
				t.Errorf("%s at %d: %v", name, at, err)
			}
			for other, two := range kinds {
				both := goodFile()
				two.spoil(&both, 2-at)
				if strings.Contains("no attributes too few too many", other) && one.err == api.ErrArg {
					continue // there would be no place for a wrong attribute
				}
				one.spoil(&both, at)
				want := min(one.err, two.err)
				if _, err := putIs(t, both); err != want {
					t.Errorf("%s and %s: %v, want %v", name, other, err, want)
				}
			}
		}
	}
}

// P10.2, on drawn files with drawn faults.
func TestDrawnWrongFiles(t *testing.T) {
	r := rand.New(rand.NewPCG(10, 4))
	kinds := map[api.Errno]int{}
	for range 20000 {
		f := drawnFile(r)
		for range r.IntN(3) {
			spoilFile(r, &f)
		}
		_, err := putIs(t, f)
		kinds[err]++
	}
	if kinds[api.OK] < 3000 || kinds[api.ErrArg] < 3000 || kinds[api.ErrRange] < 1000 {
		t.Error("of the kinds there are", kinds)
	}
}

func spoilFile(r *rand.Rand, f *nodefile.File) {
	drawn := math.Float64frombits(r.Uint64())
	odd := []float64{math.NaN(), math.Inf(1), math.Inf(-1), 0x1p101, 0x1p-101, math.Copysign(0, -1), drawn}[r.IntN(7)]
	kind := r.IntN(10)
	switch {
	case kind == 0:
		f.Attrs = r.IntN(20) - 2
	case kind == 1:
		f.Zero = !f.Zero
	case kind == 2:
		f.Marks = !f.Marks
	case len(f.Nodes) == 0:
	default:
		one := &f.Nodes[r.IntN(len(f.Nodes))]
		switch {
		case kind < 6:
			one.P.X = odd
		case kind < 8:
			one.P.Y = odd
		case kind == 8 && len(one.Attr) > 0:
			one.Attr[r.IntN(len(one.Attr))] = odd
		default:
			one.Mark = r.IntN(3)
		}
	}
}

// R1 and R8: points and attributes that are no numbers, in files of any shape.
func TestNothing(t *testing.T) {
	for _, f := range []nodefile.File{
		{Nodes: []api.Node{}}, {Nodes: make([]api.Node, 1)}, {Nodes: make([]api.Node, 3), Zero: true}, {Nodes: make([]api.Node, 2), Marks: true},
		{Nodes: make([]api.Node, 2), Attrs: 1}, {Attrs: math.MinInt64, Nodes: make([]api.Node, 1), Marks: true},
	} {
		putIs(t, f)
	}
}
