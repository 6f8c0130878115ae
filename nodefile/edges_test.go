package nodefile_test

import (
	"math"
	"strings"
	"testing"

	"trivet/api"
	"trivet/lines"
	"trivet/nodefile"
)

// node is a shorter way to tell one.
func node(x, y float64, mark int, attrs ...float64) api.Node {
	return api.Node{P: api.Point{X: x, Y: y}, Attr: attrs, Mark: mark}
}

// both holds a text that is as it is written against its file, both ways.
func both(t *testing.T, text string, f nodefile.File) {
	t.Helper()
	readIs(t, text, f, 0, api.OK)
	asked(t, text)
	putIs(t, f)
	if got, err := nodefile.Write(f); got != text || err != api.OK {
		t.Errorf("Write: %q, %v, want %q", got, err, text)
	}
}

func TestNoNodes(t *testing.T) {
	both(t, "0 2 0 0\n", nodefile.File{})
	both(t, "0 2 0 1\n", nodefile.File{Marks: true})
	both(t, "0 2 5 0\n", nodefile.File{Attrs: 5})
	both(t, "0 2 16 1\n", nodefile.File{Attrs: 16, Marks: true})
	takeIs(t, []lines.Line{{No: 9, Words: []string{"0", "2", "0", "0"}}, {No: 10, Words: []string{"1"}}}, nodefile.File{}, 1, 0, api.OK)
	for _, marks := range []bool{false, true} {
		for _, attrs := range []int{0, 1, 16} {
			if _, err := putIs(t, nodefile.File{Zero: true, Attrs: attrs, Marks: marks}); err != api.ErrArg {
				t.Error("Zero without nodes:", err)
			}
		}
	}
}

// One node, and two: from 0 on, and from 1.
func TestNumbers(t *testing.T) {
	both(t, "1 2 0 0\n0 3 4\n", nodefile.File{Zero: true, Nodes: []api.Node{node(3, 4, 0)}})
	both(t, "1 2 0 0\n1 3 4\n", nodefile.File{Nodes: []api.Node{node(3, 4, 0)}})
	both(t, "2 2 0 0\n0 3 4\n1 3 4\n", nodefile.File{Zero: true, Nodes: []api.Node{node(3, 4, 0), node(3, 4, 0)}})
	both(t, "2 2 0 0\n1 3 4\n2 3 4\n", nodefile.File{Nodes: []api.Node{node(3, 4, 0), node(3, 4, 0)}})
	both(t, "1 2 0 1\n1 3 4 0\n", nodefile.File{Marks: true, Nodes: []api.Node{node(3, 4, 0)}})
	both(t, "1 2 0 1\n0 3 4 -9223372036854775808\n", nodefile.File{Zero: true, Marks: true, Nodes: []api.Node{node(3, 4, math.MinInt64)}})
	both(t, "1 2 0 1\n1 3 4 9223372036854775807\n", nodefile.File{Marks: true, Nodes: []api.Node{node(3, 4, math.MaxInt64)}})
}

// From no attributes to MaxAttrs, and one more; of nodes that have that many.
func TestAttrs(t *testing.T) {
	for attrs := range 19 {
		row := make([]float64, attrs)
		words := ""
		for i := range row {
			row[i] = float64(i) - 3.5
			words += " " + modelText(row[i])
		}
		f := nodefile.File{Attrs: attrs, Nodes: []api.Node{node(1, 2, 0, row...), node(3, 4, 0, row...)}}
		text := "2 2 " + modelText(float64(attrs)) + " 0\n1 1 2" + words + "\n2 3 4" + words + "\n"
		if attrs <= 16 {
			both(t, text, f)
			continue
		}
		readIs(t, text, nodefile.File{}, 1, api.ErrFull)
		if _, err := putIs(t, f); err != api.ErrArg {
			t.Errorf("Put with %d attributes: %v", attrs, err)
		}
	}
	for _, attrs := range []int{-1, math.MinInt64, 17, math.MaxInt64} {
		if _, err := putIs(t, nodefile.File{Attrs: attrs}); err != api.ErrArg {
			t.Errorf("Put with %d attributes: %v", attrs, err)
		}
	}
}

func TestMarkWithoutMarks(t *testing.T) {
	for _, mark := range []int{1, -1, math.MinInt64, math.MaxInt64} {
		for at := range 3 {
			f := nodefile.File{Nodes: []api.Node{node(0, 0, 0), node(1, 0, 0), node(0, 1, 0)}}
			f.Nodes[at].Mark = mark
			if _, err := putIs(t, f); err != api.ErrArg {
				t.Error("a Mark without Marks:", err)
			}
			f.Marks = true
			if _, err := putIs(t, f); err != api.OK {
				t.Error("a Mark with Marks:", err)
			}
		}
	}
}

// -0 is written as 0, and read as 0; as a word it is no number.
func TestNoughtBelow(t *testing.T) {
	minus := math.Copysign(0, -1)
	f := nodefile.File{Attrs: 2, Nodes: []api.Node{node(minus, minus, 0, minus, 0), node(0, minus, 0, 0, minus)}}
	const text = "2 2 2 0\n1 0 0 0 0\n2 0 0 0 0\n"
	putIs(t, f)
	if got, err := nodefile.Write(f); got != text || err != api.OK {
		t.Errorf("Write: %q, %v", got, err)
	}
	both(t, text, nodefile.File{Attrs: 2, Nodes: []api.Node{node(0, 0, 0, 0, 0), node(0, 0, 0, 0, 0)}})
	readIs(t, "1 2 1 0\n1 0b5 0b-9999 0b9999", nodefile.File{Attrs: 1, Nodes: []api.Node{node(0, 0, 0, 0)}}, 0, api.OK)
	for _, line := range []string{"1 -0 0 0", "1 0 -0 0", "1 0 0 -0", "-0 0 0 0", "1 -0b1 0 0"} {
		readIs(t, "1 2 1 0\n"+line, nodefile.File{}, 2, api.ErrForm)
	}
}

// Floats with and without a power of two, told in one way and in others.
func TestFloats(t *testing.T) {
	both(t, "3 2 2 0\n1 1b100 -1b100 1b1023 -1b-1074\n2 1b-100 -1b-100 9007199254740991 1b53\n3 3b-2 -1b-1 9007199254740991b971 -3b-1074\n",
		nodefile.File{Attrs: 2, Nodes: []api.Node{
			node(0x1p100, -0x1p100, 0, 0x1p1023, -0x1p-1074),
			node(0x1p-100, -0x1p-100, 0, 1<<53-1, 1<<53),
			node(0.75, -0.5, 0, math.MaxFloat64, -0x3p-1074),
		}})
	readIs(t, "2 2 1 0\n1 12b-4 -8b-2 4b-1\n2 2b99 2b-101 9007199254740992\n",
		nodefile.File{Attrs: 1, Nodes: []api.Node{node(0.75, -2, 0, 2), node(0x1p100, 0x1p-100, 0, 1<<53)}}, 0, api.OK)
	for _, x := range []struct {
		line string
		err  api.Errno
	}{
		{"1 1b101 0 0", api.ErrRange}, {"1 0 -1b101 0", api.ErrRange}, {"1 1b-101 0 0", api.ErrRange}, {"1 0 1b-101 0", api.ErrRange},
		{"1 9007199254740993b48 0 0", api.ErrRange}, {"1 4503599627370497b48 0 0", api.ErrRange}, {"1 4503599627370497b47 0 0", api.OK},
		{"1 9007199254740991b-100 0 0", api.OK}, {"1 9007199254740991b-101 0 0", api.ErrRange},
		{"1 0 0 1b1024", api.ErrRange}, {"1 0 0 1b-1075", api.ErrRange}, {"1 0 0 2b-1075", api.OK}, {"1 0 0 9007199254740993", api.ErrRange},
		{"1 0 0 1b101", api.OK}, {"1 0 0 1b-101", api.OK},
	} {
		if err := asked(t, "1 2 1 0\n"+x.line); err != x.err {
			t.Errorf("%q: %v, want %v", x.line, err, x.err)
		}
	}
}

// A line more than the first one says, wherever it stands in the text.
func TestLineMore(t *testing.T) {
	for _, x := range []struct {
		text string
		at   int
	}{
		{"0 2 0 0\n1 0 0", 2}, {"0 2 0 0\n\n#\n  x", 4}, {"1 2 0 0\n1 0 0\n2 0 0", 3}, {"1 2 0 0\n1 0 0\n\n2 0 0\n3 0 0", 4},
		{"1 2 0 0\n0 0 0\n1 0 0\n", 3}, {"\n1 2 0 0\n\n1 0 0 # one\n# two\n0 2 0 0", 6}, {"0 2 0 0\n0 2 0 0", 2},
	} {
		readIs(t, x.text, nodefile.File{}, x.at, api.ErrForm)
		asked(t, x.text)
	}
	l, _, _ := lines.Read("2 2 0 0\n0 5 6\n1 7 8\n2 9 9\n\nx y\n")
	takeIs(t, l, nodefile.File{Zero: true, Nodes: []api.Node{node(5, 6, 0), node(7, 8, 0)}}, 3, 0, api.OK)
	takeIs(t, l[:3], nodefile.File{Zero: true, Nodes: []api.Node{node(5, 6, 0), node(7, 8, 0)}}, 3, 0, api.OK)
}

// Lines without words behind the last one are no lines of the file, and where
// one is missing is told by the last one that has words.
func TestLastLine(t *testing.T) {
	for text, at := range map[string]int{
		"": 1, "\n\n\n": 1, "# no line\n \t\r\n": 1, "1 2 0 0": 2, "1 2 0 0\n\n\n": 2, "\n\n1 2 0 0 # one\n# none\n": 4,
		"2 2 0 0\n1 0 0": 3, "2 2 0 0\n\n1 0 0\n\n": 4, "1048576 2 16 1": 2,
	} {
		readIs(t, text, nodefile.File{}, at, api.ErrForm)
		asked(t, text)
	}
	takeIs(t, nil, nodefile.File{}, 0, 1, api.ErrForm)
	takeIs(t, []lines.Line{{No: 70, Words: strings.Fields("1 2 0 0")}}, nodefile.File{}, 0, 71, api.ErrForm)
	takeIs(t, []lines.Line{{No: 70, Words: strings.Fields("2 2 0 0")}, {No: 75, Words: strings.Fields("1 0 0")}}, nodefile.File{}, 0, 76, api.ErrForm)
}
