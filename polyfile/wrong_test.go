package polyfile_test

import (
	"math"
	"math/rand/v2"
	"strings"
	"testing"

	"trivet/api"
	"trivet/lines"
	"trivet/nodefile"
	"trivet/polyfile"
)

// refused holds a text against where and why it is refused, by itself and with
// points of another file.
func refused(t *testing.T, text string, at int, err api.Errno) {
	t.Helper()
	for _, other := range []nodefile.File{{}, threeNodes()} {
		readIs(t, text, other, polyfile.File{}, at, err)
		asked(t, text, other)
	}
}

// First lines of the parts that are none such.
func TestFirstLines(t *testing.T) {
	noNumbers := []string{"x", "-1", "-0", "00", "+0", "0b0", "1b1", "1.0", "0x1", "-9223372036854775808", "9223372036854775808"}
	for _, word := range noNumbers {
		refused(t, three+word+" 0\n0", 5, api.ErrForm)
		refused(t, three+"0 "+word+"\n0", 5, api.ErrForm)
		refused(t, three+"0 0\n"+word, 6, api.ErrForm)
		refused(t, three+"0 0\n"+word+"\n0", 6, api.ErrForm)
		refused(t, three+"0 0\n0\n"+word, 7, api.ErrForm)
		refused(t, three+"\n# segments\n"+word+" 1\n0", 7, api.ErrForm)
	}
	for _, line := range []string{"0", "1", "0 0 0", "0 1 0", "0 0 0 0", "x", "1 1 2"} {
		refused(t, three+line+"\n0", 5, api.ErrForm)
	}
	for _, line := range []string{"0 0", "0 1", "1 0 0", "0 x"} {
		refused(t, three+"0 0\n"+line, 6, api.ErrForm)
		refused(t, three+"0 0\n0\n"+line, 7, api.ErrForm)
	}
	for _, marks := range []string{"2", "3", "10", "01", "1048577", "9223372036854775807"} {
		refused(t, three+"0 "+marks+"\n0", 5, api.ErrForm)
		refused(t, three+"1 "+marks+"\n1 1 2\n0", 5, api.ErrForm)
	}
	for _, count := range []string{"1048577", "9223372036854775807"} {
		refused(t, three+count+" 0\n0", 5, api.ErrFull)
		refused(t, three+count+" 1", 5, api.ErrFull)
		refused(t, three+"0 0\n"+count, 6, api.ErrFull)
		refused(t, three+"0 0\n0\n"+count, 7, api.ErrFull)
		refused(t, three+"0 0\n0\n"+count+"\n1 0 0 0 0", 7, api.ErrFull)
	}
}

// part is one kind of line, with where it stands.
type part struct {
	head, line string
	at         int
	whole      int // how many of its words are whole numbers, from the first on
	marked     int // how many at its end
}

func parts() []part {
	return []part{
		{three + "2 0\n1 1 1\n", "2 1 3", 7, 3, 0}, {three + "2 1\n1 1 1 1\n", "2 1 3 4", 7, 3, 1},
		{three + "0 0\n2\n1 1 1\n", "2 0 1", 8, 1, 0}, {three + "0 0\n0\n2\n1 1 1 1 1\n", "2 0 1 2 3", 9, 1, 0},
	}
}

// Words that are no such numbers, at each place of each kind of line.
func TestWords(t *testing.T) {
	put := func(p part, at int, word string) string {
		words := strings.Fields(p.line)
		words[at] = word
		text := p.head + strings.Join(words, " ")
		if p.whole == 3 {
			text += "\n0"
		}
		return text
	}
	for _, p := range parts() {
		words := strings.Fields(p.line)
		if err := asked(t, put(p, 0, words[0]), nodefile.File{}); err != api.OK {
			t.Fatalf("%q: %v", put(p, 0, words[0]), err)
		}
		for at := range words {
			for _, word := range []string{"x", "+1", "01", "-0", "1.5", "1e5", "1B1", "b", "b1", "1b", "1b+1", "1b-0", "2b01", "-", "nan", "inf", "0x1", "9223372036854775808", strings.Repeat("1", 400)} {
				refused(t, put(p, at, word), p.at, api.ErrForm)
			}
			isWhole := at < p.whole || at >= len(words)-p.marked
			for _, word := range []string{"1b1", "1b0", "3b-2", "0b0"} { // floats, and no whole numbers
				if isWhole {
					refused(t, put(p, at, word), p.at, api.ErrForm)
				} else if err := asked(t, put(p, at, word), nodefile.File{}); err != api.OK {
					t.Errorf("%q: %v", put(p, at, word), err)
				}
			}
			if isWhole {
				continue
			}
			for _, word := range []string{"9007199254740993", "1b1024", "1b-1075", "9223372036854775807", "1b9223372036854775807", "-1b-9223372036854775808"} {
				refused(t, put(p, at, word), p.at, api.ErrRange)
			}
			for _, word := range []string{"1b101", "-1b101", "1b-101", "3b99", "1b1023", "1b-1074"} {
				if at <= 2 {
					refused(t, put(p, at, word), p.at, api.ErrRange)
				} else if err := asked(t, put(p, at, word), nodefile.File{}); err != api.OK {
					t.Errorf("%q: %v", put(p, at, word), err)
				}
			}
		}
		// The number that must stand first, and others.
		for _, word := range []string{"0", "1", "3", "-2", "-9223372036854775808", "9223372036854775807"} {
			refused(t, put(p, 0, word), p.at, api.ErrForm)
		}
	}
}

// Lines of another count of words.
func TestCountOfWords(t *testing.T) {
	for _, p := range parts() {
		for count := 1; count <= 8; count++ {
			if text := p.head + "2" + strings.Repeat(" 1", count-1) + "\n0"; count != len(strings.Fields(p.line)) {
				refused(t, text, p.at, api.ErrForm)
			}
		}
	}
}

// Numbers go on from what the first node's is, in each part.
func TestNumbers(t *testing.T) {
	zero := strings.NewReplacer("\n1 ", "\n0 ", "\n2 ", "\n1 ", "\n3 ", "\n2 ").Replace(three)
	for _, x := range []struct {
		nodes, numbers string
		at             int // 0: as they must be
	}{
		{three, "1 2", 0}, {zero, "0 1", 0}, {three, "0 1", 1}, {zero, "1 2", 1}, {three, "1 1", 2}, {three, "1 3", 2}, {three, "1 0", 2},
		{zero, "0 2", 2}, {zero, "0 0", 2}, {zero, "0 -1", 2}, {three, "2 3", 1}, {zero, "-1 0", 1},
	} {
		numbers := strings.Fields(x.numbers)
		for i, text := range []string{"2 0\n# 1 1\n% 1 1\n0", "0 0\n2\n# 0 0\n% 0 0", "0 0\n0\n2\n# 0 0 0 0\n% 0 0 0 0"} {
			text = x.nodes + strings.NewReplacer("#", numbers[0], "%", numbers[1]).Replace(text)
			if x.at > 0 {
				refused(t, text, 5+i+x.at, api.ErrForm)
			} else if err := asked(t, text, nodefile.File{}); err != api.OK {
				t.Errorf("%q: %v", text, err)
			}
		}
	}
}

// Of two faults the one that comes first by the chapter's table.
func TestFirstFaultRead(t *testing.T) {
	for _, x := range []struct {
		text string
		at   int
		err  api.Errno
	}{
		// The form of a first line comes ahead of how many it says, and that ahead
		// of what it says of markers.
		{"1048577 x", 5, api.ErrForm}, {"1048577 -1", 5, api.ErrForm}, {"1048577", 5, api.ErrForm}, {"1048577 0 0", 5, api.ErrForm}, {"1048577 2", 5, api.ErrFull},
		{"0 0\n1048577 0", 6, api.ErrForm}, {"0 0\n0\n1048577 0", 7, api.ErrForm},
		// Lines come in their order, and a first line ahead of its part.
		{"1048577 0\nx", 5, api.ErrFull}, {"2 0\n1 9 1\nx", 6, api.ErrIndex}, {"2 0\nx\n2 9 1", 6, api.ErrForm}, {"2 0\n1 9 1", 6, api.ErrIndex}, {"1 0\n1 9 1\n1048577", 6, api.ErrIndex},
		{"0 0\n1\n1 1b101 0\nx", 7, api.ErrRange}, {"0 0\n2\n1 1b101 0", 7, api.ErrRange}, {"0 0\n1\nx\n1048577", 7, api.ErrForm}, {"0 0\n0\n1\n1 0 0 1b2000 0\n2", 8, api.ErrRange},
		// A count of words comes ahead of the words.
		{"1 0\n1 9", 6, api.ErrForm}, {"1 0\n1 9 9 9", 6, api.ErrForm}, {"1 1\n1 9 9", 6, api.ErrForm}, {"0 0\n1\n1 1b2000", 7, api.ErrForm}, {"0 0\n1\n1 1b101 0 0", 7, api.ErrForm},
		{"0 0\n0\n1\n1 1b2000 0 0", 8, api.ErrForm}, {"0 0\n0\n1\n1 1b101 0 0 0 0", 8, api.ErrForm},
		// Words come in their order, and a point behind Y.
		{"1 0\n2 9 9", 6, api.ErrForm}, {"1 0\n1 9 x", 6, api.ErrIndex}, {"1 0\n1 x 9", 6, api.ErrForm}, {"1 1\n1 1 9 x", 6, api.ErrIndex}, {"1 1\n1 1 x y", 6, api.ErrForm},
		{"1 1\n1 4 1 x", 6, api.ErrIndex}, {"0 0\n1\n2 1b2000 0", 7, api.ErrForm}, {"0 0\n1\n1 1b2000 x", 7, api.ErrRange}, {"0 0\n1\n1 1b101 x", 7, api.ErrForm}, {"0 0\n1\n1 x 1b2000", 7, api.ErrForm},
		{"0 0\n0\n1\n1 1b101 0 x 0", 8, api.ErrRange}, {"0 0\n0\n1\n1 0 1b101 x 0", 8, api.ErrRange}, {"0 0\n0\n1\n1 1b101 x 0 0", 8, api.ErrForm}, {"0 0\n0\n1\n1 0 0 1b2000 x", 8, api.ErrRange},
		{"0 0\n0\n1\n1 0 0 x 1b2000", 8, api.ErrForm}, {"0 0\n0\n1\n1 1b2000 x 0 0", 8, api.ErrRange}, {"0 0\n0\n1\n2 1b2000 x 0 0", 8, api.ErrForm},
		// A line more comes behind all that is wrong with the others.
		{"0 0\n0\n1\n1 1b101 0 0 0\n2 0 0 0 0", 8, api.ErrRange}, {"0 0\n0\n1048577\nx\ny", 7, api.ErrFull},
	} {
		refused(t, three+x.text, x.at, x.err)
	}
}

// What nodefile.Take refuses comes ahead of the other parts, with its line.
func TestRefusedByNodes(t *testing.T) {
	for _, x := range []struct {
		text string
		at   int
		err  api.Errno
	}{
		{"x", 1, api.ErrForm}, {"0 0\n0", 1, api.ErrForm}, {"0 3 0 0\nx", 1, api.ErrForm}, {"1048577 2 0 0\nx", 1, api.ErrFull}, {"0 2 17 0\n0 0\n0", 1, api.ErrFull},
		{"1 2 0 0\n2 0 0\n1048577 0", 2, api.ErrForm}, {"2 2 0 0\n1 0 0\n\n2 1b101 0\nx", 4, api.ErrRange}, {"1 2 0 0\n1 0 0 0\n0 0\n0", 2, api.ErrForm},
		{"1 2 0 0\n0 0\n0", 2, api.ErrForm}, {"1 2 0 0\n0 0 1b2000\n0 0\n0", 2, api.ErrRange},
	} {
		refused(t, x.text, x.at, x.err)
		if l, _, err := lines.Read(x.text); err == api.OK {
			if _, _, at, err := nodefile.Take(l); at != x.at || err != x.err {
				t.Errorf("Take of %q: %d, %v", x.text, at, err)
			}
		}
	}
}

// What lines.Read refuses comes ahead of all else, with its line.
func TestRefusedByLines(t *testing.T) {
	long := "0 2 0 0" + strings.Repeat(" ", api.MaxLine)
	for _, x := range []struct {
		text string
		at   int
		err  api.Errno
	}{
		{"\x01", 1, api.ErrForm}, {"x\n0 2 0 0\n\x7f", 3, api.ErrForm}, {three + "0 0\n0\n\n1\x002", 8, api.ErrForm},
		{long, 1, api.ErrFull}, {three + long, 5, api.ErrFull}, {"x\n\n" + long, 3, api.ErrFull},
		{three + "1048577 0\n" + strings.Repeat("1", api.MaxNumber+1), 6, api.ErrForm},
		{"0 2 0 0\n0 0\n0" + strings.Repeat("\n", api.MaxText), 0, api.ErrFull}, {strings.Repeat("x\n", api.MaxText/2) + "\n", 0, api.ErrFull},
	} {
		readIs(t, x.text, nodefile.File{}, polyfile.File{}, x.at, x.err)
	}
	text := "0 2 0 0\n0 0\n0"
	readIs(t, text+strings.Repeat("\n", api.MaxText-len(text)), nodefile.File{}, polyfile.File{}, 0, api.OK)
}

type fileFault struct {
	name  string
	spoil func(f *polyfile.File)
	err   api.Errno
}

// fileFaults are what can be wrong with a file, in the order of the chapter's
// table; those that must not be put together share their name.
func fileFaults() []fileFault {
	var all []fileFault
	add := func(name string, err api.Errno, spoil func(f *polyfile.File)) {
		all = append(all, fileFault{name, spoil, err})
	}
	add("attrs", api.ErrArg, func(f *polyfile.File) { f.Nodes.Attrs = -1 })
	add("node mark", api.ErrArg, func(f *polyfile.File) { f.Nodes.Nodes[2].Mark = 1 })
	add("node", api.ErrRange, func(f *polyfile.File) { f.Nodes.Nodes[1].P.X = 0x1p101 })
	for i := range 3 {
		add("end", api.ErrIndex, func(f *polyfile.File) { f.Segs[i].A = 3 })
		add("end", api.ErrIndex, func(f *polyfile.File) { f.Segs[i].B = -1 })
		add("mark", api.ErrArg, func(f *polyfile.File) { f.Segs[i].Mark = -1 })
	}
	odd := []float64{math.NaN(), math.Inf(1), math.Inf(-1)}
	off := append(odd, 0x1p101, -0x1p-101, 0x1.0000000000001p100, math.SmallestNonzeroFloat64)
	for i := range 3 {
		for _, x := range off {
			add("hole", api.ErrRange, func(f *polyfile.File) { f.Holes[i].X = x })
			add("hole", api.ErrRange, func(f *polyfile.File) { f.Holes[i].Y = x })
		}
	}
	for i := range 3 {
		for _, x := range off {
			add("region", api.ErrRange, func(f *polyfile.File) { f.Regions[i].P.X = x })
			add("region", api.ErrRange, func(f *polyfile.File) { f.Regions[i].P.Y = x })
		}
		for _, x := range odd {
			add("attr", api.ErrArg, func(f *polyfile.File) { f.Regions[i].Attr = x })
			add("area", api.ErrArg, func(f *polyfile.File) { f.Regions[i].Area = x })
		}
	}
	return all
}

func goodFile() polyfile.File {
	return polyfile.File{Nodes: threeNodes(),
		Segs: []api.Seg{{A: 0, B: 1}, {A: 1, B: 2}, {A: 2, B: 0}}, Holes: []api.Point{{X: 1}, {Y: 1}, {X: 2, Y: 2}},
		Regions: []api.Region{{Attr: 1}, {Area: 2}, {P: point(3, 3)}}}
}

// Each fault of a file, and each two of them.
func TestWrongFiles(t *testing.T) {
	faults := fileFaults()
	for i, one := range faults {
		f := goodFile()
		one.spoil(&f)
		if _, err := writeIs(t, f); err != one.err {
			t.Errorf("%s: %v, want %v", one.name, err, one.err)
		}
		f.Elsewhere = true
		if _, err := writeIs(t, f); err != one.err {
			t.Errorf("%s, with points elsewhere: %v, want %v", one.name, err, one.err)
		}
		for _, two := range faults[i+1:] {
			both := goodFile()
			two.spoil(&both)
			one.spoil(&both)
			if _, err := writeIs(t, both); err != one.err {
				t.Errorf("%s and %s: %v, want %v", one.name, two.name, err, one.err)
			}
		}
	}
}

// Points elsewhere, and none there: behind what nodefile.Put answers, ahead of
// all else.
func TestElsewhereWithoutNodes(t *testing.T) {
	for _, f := range []polyfile.File{{}, {Nodes: nodefile.File{Attrs: 3, Marks: true}}, {Segs: []api.Seg{{A: 1}}}, {Holes: []api.Point{{X: math.NaN()}}}, {Regions: make([]api.Region, api.MaxPoints+1)}} {
		f.Elsewhere = true
		if _, err := writeIs(t, f); err != api.ErrArg {
			t.Error("Write of points elsewhere that are none:", err)
		}
	}
	for _, f := range []polyfile.File{{Nodes: nodefile.File{Zero: true}}, {Nodes: nodefile.File{Attrs: 17}}} {
		f.Elsewhere = true
		if _, err := writeIs(t, f); err != api.ErrArg {
			t.Error("Write:", err)
		}
	}
}

// P12.2, on drawn files with drawn faults.
func TestDrawnWrongFiles(t *testing.T) {
	r := rand.New(rand.NewPCG(12, 5))
	kinds := map[api.Errno]int{}
	for range 20000 {
		f := drawnFile(r)
		for range 1 + r.IntN(3) {
			spoilFile(r, &f)
		}
		_, err := writeIs(t, f)
		kinds[err]++
	}
	if kinds[api.OK] < 3000 || kinds[api.ErrArg] < 1000 || kinds[api.ErrRange] < 1000 || kinds[api.ErrIndex] < 300 {
		t.Error("of the kinds there are", kinds)
	}
}

func spoilFile(r *rand.Rand, f *polyfile.File) {
	drawn := math.Float64frombits(r.Uint64())
	odd := []float64{math.NaN(), math.Inf(1), math.Inf(-1), 0x1p101, 0x1p-101, math.Copysign(0, -1), drawn}[r.IntN(7)]
	kind := r.IntN(10)
	switch {
	case kind == 0:
		f.Elsewhere = !f.Elsewhere
	case kind == 1:
		f.Marks = !f.Marks
	case kind == 2:
		f.Nodes.Zero = !f.Nodes.Zero
	case kind == 3 && len(f.Nodes.Nodes) > 0:
		f.Nodes.Nodes[r.IntN(len(f.Nodes.Nodes))].P.Y = odd
	case kind < 6 && len(f.Segs) > 0:
		seg := &f.Segs[r.IntN(len(f.Segs))]
		*[]*int{&seg.A, &seg.B, &seg.Mark}[r.IntN(3)] = r.IntN(10) - 2
	case kind < 8 && len(f.Holes) > 0:
		hole := &f.Holes[r.IntN(len(f.Holes))]
		*[]*float64{&hole.X, &hole.Y}[r.IntN(2)] = odd
	case len(f.Regions) > 0:
		g := &f.Regions[r.IntN(len(f.Regions))]
		*[]*float64{&g.P.X, &g.P.Y, &g.Attr, &g.Area}[r.IntN(4)] = odd
	}
}
