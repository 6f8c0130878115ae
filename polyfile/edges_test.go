package polyfile_test

import (
	"math"
	"strings"
	"testing"

	"trivet/api"
	"trivet/nodefile"
	"trivet/polyfile"
)

// both holds a text that is as it is written against its file, both ways.
func both(t *testing.T, text string, other nodefile.File, f polyfile.File) {
	t.Helper()
	readIs(t, text, other, f, 0, api.OK)
	asked(t, text, other)
	if got, err := writeIs(t, f); got != text || err != api.OK {
		t.Errorf("Write: %q, %v, want %q", got, err, text)
	}
}

// No segments, no holes, no regions; and each of them alone.
func TestEmptyParts(t *testing.T) {
	var none nodefile.File
	f := polyfile.File{Nodes: threeNodes()}
	both(t, three+"0 0\n0\n", none, f)
	f.Marks = true
	both(t, three+"0 1\n0\n", none, f)
	f.Segs = []api.Seg{{A: 1, B: 2, Mark: -6}}
	both(t, three+"1 1\n1 2 3 -6\n0\n", none, f)
	f.Segs, f.Marks, f.Holes = nil, false, []api.Point{{X: 1, Y: 2}}
	both(t, three+"0 0\n1\n1 1 2\n", none, f)
	f.Holes, f.Regions = nil, []api.Region{{P: point(3, 4), Attr: -5, Area: 6}}
	both(t, three+"0 0\n0\n1\n1 3 4 -5 6\n", none, f)
	f.Segs, f.Holes, f.Regions = []api.Seg{}, []api.Point{}, []api.Region{}
	both(t, three+"0 0\n0\n", none, f)
}

// The part of regions can be left out, or told as 0; it is written as none.
func TestNoRegions(t *testing.T) {
	f := exampleFile()
	for _, more := range []string{"", "0", "0\n", "\n\n#\n", "# none\n0 # none\n\n"} {
		text := three + "1 1\n1 1 3 5\n0\n" + more
		readIs(t, text, nodefile.File{}, f, 0, api.OK)
		asked(t, text, nodefile.File{})
	}
	readIs(t, three+"1 1\n1 1 3 5\n0\n0\n0\n", nodefile.File{}, polyfile.File{}, 9, api.ErrForm)
}

// No nodes: those of the other file, if it has some; else what the text says.
func TestNoNodes(t *testing.T) {
	both(t, "0 2 0 0\n0 0\n0\n", nodefile.File{}, polyfile.File{})
	both(t, "0 2 5 1\n0 1\n0\n", nodefile.File{Zero: true, Attrs: 7}, polyfile.File{Nodes: nodefile.File{Attrs: 5, Marks: true}, Marks: true})
	both(t, "0 2 0 0\n0 0\n1\n1 2 3\n1\n1 4 5 6 7\n", nodefile.File{},
		polyfile.File{Holes: []api.Point{{X: 2, Y: 3}}, Regions: []api.Region{{P: point(4, 5), Attr: 6, Area: 7}}})
	for _, line := range []string{"1 1 1", "1 0 0", "1 1 2", "1 -1 1"} { // there is no node to end at
		readIs(t, "0 2 0 0\n1 0\n"+line+"\n0", nodefile.File{}, polyfile.File{}, 3, api.ErrIndex)
		readIs(t, "0 2 0 0\n1 0\n"+line+"\n0", nodefile.File{Zero: true, Marks: true}, polyfile.File{}, 3, api.ErrIndex)
	}
	other := nodefile.File{Zero: true, Attrs: 1, Marks: true, Nodes: []api.Node{{P: point(5, 6), Attr: []float64{7}, Mark: 8}, {P: point(9, 1), Attr: []float64{2}, Mark: 3}}}
	f := polyfile.File{Nodes: other, Elsewhere: true, Segs: []api.Seg{{A: 1, B: 0}}, Holes: []api.Point{{X: 3, Y: 3}}, Regions: []api.Region{{Attr: 1}, {Area: 2}}}
	both(t, "0 2 1 1\n1 0\n0 1 0\n1\n0 3 3\n2\n0 0 0 1 0\n1 0 0 0 2\n", other, f)
	// What the text says of points that it does not have is passed over.
	readIs(t, "0 2 16 0\n1 0\n0 1 0\n1\n0 3 3\n2\n0 0 0 1 0\n1 0 0 0 2\n", other, f, 0, api.OK)
}

// Points of one's own go ahead of those of the other file, whatever these are.
func TestOwnNodes(t *testing.T) {
	f := exampleFile()
	for _, other := range []nodefile.File{{}, threeNodes(), {Zero: true, Nodes: make([]api.Node, 9)}, {Attrs: -4, Nodes: []api.Node{{P: point(math.NaN(), 0)}}}} {
		readIs(t, three+"1 1\n1 1 3 5\n0\n", other, f, 0, api.OK)
		readIs(t, three+"1 1\n1 1 4 5\n0\n", other, polyfile.File{}, 6, api.ErrIndex)
	}
}

// The first and the last node as an end, and the ones beside these, from 0 on
// and from 1, with points of one's own and with those of another file.
func TestEnds(t *testing.T) {
	for _, zero := range []bool{false, true} {
		other := threeNodes()
		other.Zero = zero
		nodes, _ := nodefile.Write(other)
		least := start(polyfile.File{Nodes: other})
		for _, head := range []string{nodes, "0 2 0 0\n"} {
			at := strings.Count(head, "\n") + 2
			for end := -2; end <= 5; end++ {
				for _, line := range []string{" " + modelText(float64(end)) + " 2", " 2 " + modelText(float64(end))} {
					text := head + "1 0\n" + modelText(float64(least)) + line + "\n0"
					err := asked(t, text, other)
					if inside := end >= least && end <= least+2; inside != (err == api.OK) || !inside && err != api.ErrIndex {
						t.Errorf("an end %d from %d on: %v", end, least, err)
					}
					if err != api.OK {
						readIs(t, text, other, polyfile.File{}, at, api.ErrIndex)
					}
				}
			}
		}
		f := polyfile.File{Nodes: other}
		for _, x := range []struct {
			a, b int
			err  api.Errno
		}{
			{0, 2, api.OK}, {2, 0, api.OK}, {0, 0, api.OK}, {2, 2, api.OK}, {-1, 0, api.ErrIndex}, {0, -1, api.ErrIndex}, {3, 0, api.ErrIndex}, {0, 3, api.ErrIndex},
			{math.MinInt64, 0, api.ErrIndex}, {0, math.MaxInt64, api.ErrIndex}, {math.MaxInt64, math.MinInt64, api.ErrIndex},
		} {
			f.Segs = []api.Seg{{A: 1, B: 1}, {A: x.a, B: x.b}}
			if _, err := writeIs(t, f); err != x.err {
				t.Errorf("Write of the ends %d, %d: %v", x.a, x.b, err)
			}
		}
	}
	for _, word := range []string{"9223372036854775807", "-9223372036854775808", "1048577"} {
		readIs(t, three+"1 0\n1 "+word+" 1\n0", nodefile.File{}, polyfile.File{}, 6, api.ErrIndex)
		readIs(t, three+"1 0\n1 1 "+word+"\n0", nodefile.File{}, polyfile.File{}, 6, api.ErrIndex)
	}
}

// Any whole number is a marker.
func TestMarks(t *testing.T) {
	f := polyfile.File{Nodes: threeNodes(), Marks: true, Segs: []api.Seg{{Mark: math.MinInt64}, {A: 1, B: 2, Mark: math.MaxInt64}, {A: 2, B: 1}}}
	both(t, three+"3 1\n1 1 1 -9223372036854775808\n2 2 3 9223372036854775807\n3 3 2 0\n0\n", nodefile.File{}, f)
}

// -0 is written as 0, and read as 0; as a word it is no number; but what is of
// the other file is told as it stands there.
func TestNoughtBelow(t *testing.T) {
	minus := math.Copysign(0, -1)
	f := polyfile.File{Nodes: threeNodes(), Holes: []api.Point{{X: minus, Y: minus}}, Regions: []api.Region{{P: point(minus, minus), Attr: minus, Area: minus}}}
	const parts = "0 0\n1\n1 0 0\n1\n1 0 0 0 0\n"
	if text, err := writeIs(t, f); text != three+parts || err != api.OK {
		t.Errorf("Write: %q, %v", text, err)
	}
	f.Holes, f.Regions = []api.Point{{}}, []api.Region{{}}
	both(t, three+parts, nodefile.File{}, f)
	readIs(t, three+"0 0\n1\n1 0b5 0b-9999\n1\n1 0b1 0b2 0b3 0b9999", nodefile.File{}, f, 0, api.OK)
	for _, line := range []string{"-0 0 0 0 0", "1 -0 0 0 0", "1 0 -0 0 0", "1 0 0 -0 0", "1 0 0 0 -0", "1 0 0 0 -0b1"} {
		readIs(t, three+"0 0\n0\n1\n"+line, nodefile.File{}, polyfile.File{}, 8, api.ErrForm)
	}
	other := nodefile.File{Attrs: 1, Nodes: []api.Node{{P: point(minus, minus), Attr: []float64{minus}}}}
	want := polyfile.File{Nodes: other, Elsewhere: true}
	readIs(t, "0 2 0 0\n0 0\n0", other, want, 0, api.OK)
	if text, err := writeIs(t, want); text != "0 2 1 0\n0 0\n0\n" || err != api.OK {
		t.Errorf("Write: %q, %v", text, err)
	}
}

// Floats with and without a power of two, told in one way and in others.
func TestFloats(t *testing.T) {
	both(t, three+"0 0\n3\n1 1b100 -1b100\n2 1b-100 -1b-100\n3 9007199254740991 1b53\n2\n1 3b-2 -1b-1 9007199254740991b971 -3b-1074\n2 -1b100 1b-100 1b1023 -1b-1074\n",
		nodefile.File{}, polyfile.File{Nodes: threeNodes(),
			Holes: []api.Point{{X: 0x1p100, Y: -0x1p100}, {X: 0x1p-100, Y: -0x1p-100}, {X: 1<<53 - 1, Y: 1 << 53}},
			Regions: []api.Region{
				{P: point(0.75, -0.5), Attr: math.MaxFloat64, Area: -0x3p-1074},
				{P: point(-0x1p100, 0x1p-100), Attr: 0x1p1023, Area: -0x1p-1074},
			}})
	readIs(t, three+"0 0\n1\n1 12b-4 -8b-2\n1\n1 2b99 2b-101 9007199254740992 4b-1", nodefile.File{}, polyfile.File{Nodes: threeNodes(),
		Holes: []api.Point{{X: 0.75, Y: -2}}, Regions: []api.Region{{P: point(0x1p100, 0x1p-100), Attr: 1 << 53, Area: 2}}}, 0, api.OK)
	for word, may := range map[string]bool{
		"1b101": false, "-1b101": false, "1b-101": false, "4503599627370497b48": false, "4503599627370497b47": true,
		"9007199254740991b-100": true, "9007199254740991b-101": false, "1b100": true, "2b-101": true,
	} {
		for _, text := range []string{"1\n1 " + word + " 0", "1\n1 0 " + word, "0\n1\n1 " + word + " 0 0 0", "0\n1\n1 0 " + word + " 0 0"} {
			if err := asked(t, three+"0 0\n"+text, nodefile.File{}); err == api.OK != may || !may && err != api.ErrRange {
				t.Errorf("%q: %v", text, err)
			}
		}
		if err := asked(t, three+"0 0\n0\n1\n1 0 0 "+word+" "+word, nodefile.File{}); err != api.OK {
			t.Errorf("Attr and Area %s: %v", word, err)
		}
	}
}

// An other file that may not be: nothing is asked of it, and it is told as it is.
func TestOtherThatMayNotBe(t *testing.T) {
	odd := math.Float64frombits(0x7ff8000000abcdef)
	for _, other := range []nodefile.File{
		{Attrs: -3, Nodes: []api.Node{{P: point(math.Inf(1), odd), Attr: []float64{odd, 1}, Mark: 4}, {P: point(0x1p101, 0x1p-101)}}},
		{Attrs: 17, Zero: true, Marks: true, Nodes: []api.Node{{Mark: 4}, {Attr: make([]float64, 99)}}},
		{Nodes: []api.Node{{Mark: 7, Attr: []float64{math.Inf(-1)}}, {P: point(math.NaN(), math.Copysign(0, -1))}}},
	} {
		want := polyfile.File{Nodes: other, Elsewhere: true, Segs: []api.Seg{{A: 0, B: 1}}}
		text := "0 2 0 0\n1 0\n1 1 2\n0"
		if other.Zero {
			text = "0 2 0 0\n1 0\n0 0 1\n0"
		}
		readIs(t, text, other, want, 0, api.OK)
		asked(t, text, other)
		asked(t, strings.ReplaceAll(text, "0\n1 0", "0\n9 0"), other)
		if _, err := writeIs(t, want); err == api.OK {
			t.Error("points that may not be are written")
		}
	}
	// More nodes than there may be, and the last of them as an end.
	other := nodefile.File{Nodes: make([]api.Node, api.MaxPoints+2)}
	want := polyfile.File{Nodes: other, Elsewhere: true, Segs: []api.Seg{{A: api.MaxPoints + 1, B: 0}}}
	readIs(t, "0 2 0 0\n1 0\n1 1048578 1\n0", other, want, 0, api.OK)
	readIs(t, "0 2 0 0\n1 0\n1 1048579 1\n0", other, polyfile.File{}, 3, api.ErrIndex)
	if _, err := writeIs(t, want); err != api.ErrFull {
		t.Error("more nodes than there may be are written:", err)
	}
}

// Where a line is missing is told by the last one that has words.
func TestLastLine(t *testing.T) {
	for text, at := range map[string]int{
		"": 1, "\n\n": 1, "# none": 1, "0 2 0 0": 2, "0 2 0 0\n\n\n": 2, "\n\n0 2 0 0 # one\n#\n": 4, "1 2 0 0\n1 0 0": 3, "1 2 0 0\n1 0 0\n\n": 3, "1 2 0 0": 2,
		"0 2 0 0\n0 0": 3, "0 2 0 0\n\n0 1\n\n\n": 4, "0 2 0 0\n0 0\n1": 4, "0 2 0 0\n0 0\n2\n1 0 0": 5, "0 2 0 0\n0 0\n0\n1": 5, "0 2 0 0\n0 0\n0\n2\n\n1 0 0 0 0\n": 7,
		"1 2 0 0\n1 0 0\n1 0": 4, "1 2 0 0\n1 0 0\n2 0\n1 1 1": 5, "1 2 0 0\n1 0 0\n\n1 0\n\n1 1 1": 7, "0 2 0 0\n1048576 0": 3, "0 2 0 0\n0 0\n1048576": 4,
		"0 2 0 0\n0 0\n0\n1048576": 5,
	} {
		readIs(t, text, nodefile.File{}, polyfile.File{}, at, api.ErrForm)
		asked(t, text, nodefile.File{})
	}
}

// A line more than there must be, wherever it stands in the text.
func TestLineMore(t *testing.T) {
	for text, at := range map[string]int{
		"0 2 0 0\n0 0\n0\n0\n0": 5, "0 2 0 0\n0 0\n0\n0\nx": 5, "0 2 0 0\n0 0\n0\n0\n\n#\n 1 0 0 0 0": 7, "0 2 0 0\n0 0\n0\n1\n1 0 0 0 0\n2 0 0 0 0": 6,
		"0 2 0 0\n0 0\n1\n1 0 0\n0\n0 2 0 0\n": 6, "0 2 0 0\n0 0\n0\n1 0 0": 4, "0 2 0 0\n0 0\n1\n1 0 0\n2 0 0": 5, three + "1 0\n1 1 2\n2 2 3\n0": 7,
	} {
		readIs(t, text, nodefile.File{}, polyfile.File{}, at, api.ErrForm)
		asked(t, text, nodefile.File{})
	}
}
