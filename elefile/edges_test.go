package elefile_test

import (
	"math"
	"strconv"
	"strings"
	"testing"

	"trivet/api"
	"trivet/elefile"
)

// row is a shorter way to tell a triangle of three corners.
func row(a, b, c int, attrs ...float64) elefile.Row {
	return elefile.Row{T: []int{a, b, c}, A: attrs}
}

// both holds a text that is as it is written against its file, both ways.
func both(t *testing.T, text string, f elefile.File) {
	t.Helper()
	readIs(t, text, f, 0, api.OK)
	asked(t, text)
	writeIs(t, f)
	if got, err := elefile.Write(f); got != text || err != api.OK {
		t.Errorf("Write: %q, %v, want %q", got, err, text)
	}
}

// Without triangles First is read as 0, whatever was written.
func TestNoTriangles(t *testing.T) {
	for _, corners := range []int{3, 6} {
		for attrs := range 17 {
			text := "0 " + strconv.Itoa(corners) + " " + strconv.Itoa(attrs) + "\n"
			f := elefile.File{Corners: corners, Attrs: attrs}
			both(t, text, f)
			f.First = 1
			if got, err := writeIs(t, f); got != text || err != api.OK {
				t.Errorf("Write with First 1: %q, %v", got, err)
			}
			for _, first := range []int{-1, 2, math.MinInt64, math.MaxInt64} {
				f.First = first
				if _, err := writeIs(t, f); err != api.ErrArg {
					t.Errorf("Write with First %d: %v", first, err)
				}
			}
		}
	}
	if _, err := writeIs(t, elefile.File{}); err != api.ErrArg { // there are no corners
		t.Error("Write of nothing:", err)
	}
}

// One triangle, and two: from 0 on, and from 1; with 3 corners, and with 6.
func TestNumbers(t *testing.T) {
	six := elefile.Row{T: []int{5, 4, 3, 2, 1, 0}}
	both(t, "1 3 0\n0 0 1 2\n", elefile.File{Corners: 3, L: []elefile.Row{row(0, 1, 2)}})
	both(t, "1 3 0\n1 1 2 3\n", elefile.File{First: 1, Corners: 3, L: []elefile.Row{row(0, 1, 2)}})
	both(t, "2 3 0\n0 0 1 2\n1 7 7 7\n", elefile.File{Corners: 3, L: []elefile.Row{row(0, 1, 2), row(7, 7, 7)}})
	both(t, "2 3 0\n1 1 2 3\n2 8 8 8\n", elefile.File{First: 1, Corners: 3, L: []elefile.Row{row(0, 1, 2), row(7, 7, 7)}})
	both(t, "2 6 0\n0 5 4 3 2 1 0\n1 5 4 3 2 1 0\n", elefile.File{Corners: 6, L: []elefile.Row{six, six}})
	both(t, "2 6 0\n1 6 5 4 3 2 1\n2 6 5 4 3 2 1\n", elefile.File{First: 1, Corners: 6, L: []elefile.Row{six, six}})
	six.A = []float64{0.75, -2}
	both(t, "1 6 2\n0 5 4 3 2 1 0 3b-2 -2\n", elefile.File{Corners: 6, Attrs: 2, L: []elefile.Row{six}})
}

// From no attributes to MaxAttrs, and one more.
func TestAttrs(t *testing.T) {
	for attrs := range 19 {
		list := make([]float64, attrs)
		words := ""
		for i := range list {
			list[i] = float64(i) - 3.5
			words += " " + modelText(list[i])
		}
		f := elefile.File{First: 1, Corners: 3, Attrs: attrs, L: []elefile.Row{row(0, 1, 2, list...), row(2, 1, 0, list...)}}
		text := "2 3 " + strconv.Itoa(attrs) + "\n1 1 2 3" + words + "\n2 3 2 1" + words + "\n"
		if attrs <= 16 {
			both(t, text, f)
			continue
		}
		readIs(t, text, elefile.File{}, 1, api.ErrFull)
		if _, err := writeIs(t, f); err != api.ErrArg {
			t.Errorf("Write with %d attributes: %v", attrs, err)
		}
	}
	for _, attrs := range []int{-1, math.MinInt64, 17, math.MaxInt64} {
		if _, err := writeIs(t, elefile.File{Corners: 3, Attrs: attrs}); err != api.ErrArg {
			t.Errorf("Write with %d attributes: %v", attrs, err)
		}
	}
}

// Corners numbered First and First + MaxPoints - 1, and one beside these, at each
// place of a triangle.
func TestEndsOfCorners(t *testing.T) {
	for first := range 2 {
		for _, corners := range []int{3, 6} {
			for at := range corners {
				for n, want := range map[int]api.Errno{
					first: api.OK, first + 1048575: api.OK, first - 1: api.ErrIndex, first + 1048576: api.ErrIndex,
					math.MinInt64: api.ErrIndex, math.MaxInt64: api.ErrIndex, -1: api.ErrIndex,
				} {
					words := strings.Fields(strings.Repeat(" 2", 1+corners))
					words[0], words[1+at] = strconv.Itoa(first), strconv.Itoa(n)
					text := "1 " + strconv.Itoa(corners) + " 0\n" + strings.Join(words, " ") + "\n"
					if err := asked(t, text); err != want {
						t.Errorf("%q: %v, want %v", text, err, want)
					}
				}
				for n, want := range map[int]api.Errno{0: api.OK, 1048575: api.OK, -1: api.ErrArg, 1048576: api.ErrArg, math.MinInt64: api.ErrArg, math.MaxInt64: api.ErrArg} {
					f := elefile.File{First: first, Corners: corners, L: []elefile.Row{{T: make([]int, corners)}}}
					f.L[0].T[at] = n
					if _, err := writeIs(t, f); err != want {
						t.Errorf("Write with a corner %d: %v, want %v", n, err, want)
					}
				}
			}
		}
	}
}

// -0 is written as 0, and read as 0; as a word it is no number.
func TestNoughtBelow(t *testing.T) {
	minus := math.Copysign(0, -1)
	const text = "2 3 2\n0 0 1 2 0 0\n1 0 1 2 0 0\n"
	f := elefile.File{Corners: 3, Attrs: 2, L: []elefile.Row{row(0, 1, 2, minus, 0), row(0, 1, 2, minus, minus)}}
	if got, err := writeIs(t, f); got != text || err != api.OK {
		t.Errorf("Write: %q, %v", got, err)
	}
	both(t, text, elefile.File{Corners: 3, Attrs: 2, L: []elefile.Row{row(0, 1, 2, 0, 0), row(0, 1, 2, 0, 0)}})
	readIs(t, "1 3 2\n0 0 1 2 0b-9999 0b5", elefile.File{Corners: 3, Attrs: 2, L: []elefile.Row{row(0, 1, 2, 0, 0)}}, 0, api.OK)
	for _, line := range []string{"0 0 1 2 -0 0", "0 0 1 2 0 -0", "0 -0 1 2 0 0", "-0 0 1 2 0 0", "0 0 1 2 -0b1 0"} {
		readIs(t, "1 3 2\n"+line, elefile.File{}, 2, api.ErrForm)
	}
}

// Floats with and without a power of two, told in one way and in others. What a
// point may not have an attribute may.
func TestFloats(t *testing.T) {
	both(t, "3 3 3\n1 1 2 3 1b1023 -1b-1074 9007199254740991\n2 1 2 3 1b53 3b-2 -1b-1\n3 1 2 3 9007199254740991b971 -3b-1074 -9007199254740991\n",
		elefile.File{First: 1, Corners: 3, Attrs: 3, L: []elefile.Row{
			row(0, 1, 2, 0x1p1023, -0x1p-1074, 1<<53-1),
			row(0, 1, 2, 1<<53, 0.75, -0.5),
			row(0, 1, 2, math.MaxFloat64, -0x3p-1074, 1-1<<53),
		}})
	readIs(t, "1 3 4\n0 0 1 2 12b-4 -8b-2 2b-1075 9007199254740992\n",
		elefile.File{Corners: 3, Attrs: 4, L: []elefile.Row{row(0, 1, 2, 0.75, -2, 0x1p-1074, 1<<53)}}, 0, api.OK)
	for word, want := range map[string]api.Errno{
		"1b1024": api.ErrRange, "1b-1075": api.ErrRange, "2b-1075": api.OK, "9007199254740993": api.ErrRange, "9007199254740993b1": api.ErrRange,
		"1b101": api.OK, "1b-101": api.OK, "1b0": api.OK, "1b-0": api.ErrForm, "9223372036854775807": api.ErrRange, "9223372036854775808": api.ErrForm,
		"1b9223372036854775807": api.ErrRange, "0b9223372036854775807": api.OK,
	} {
		if err := asked(t, "1 3 1\n1 1 1 1 "+word); err != want {
			t.Errorf("%s: %v, want %v", word, err, want)
		}
	}
}

// A line more than there are triangles, wherever it stands in the text.
func TestLineMore(t *testing.T) {
	for _, x := range []struct {
		text string
		at   int
	}{
		{"0 3 0\n1 1 2 3", 2}, {"0 3 0\n\n#\n  x", 4}, {"1 3 0\n1 1 2 3\n2 1 2 3", 3}, {"1 3 0\n1 1 2 3\n\n2 1 2 3\n3 1 2 3", 4},
		{"1 3 0\n0 0 1 2\n1 0 1 2\n", 3}, {"\n1 6 0\n\n1 1 2 3 4 5 6 # one\n# two\n0 3 0", 6}, {"0 3 0\n0 3 0", 2}, {"0 6 0\n1", 2},
	} {
		readIs(t, x.text, elefile.File{}, x.at, api.ErrForm)
		asked(t, x.text)
	}
}

// A line too few is told at the line 0, wherever the text ends.
func TestLineTooFew(t *testing.T) {
	for _, text := range []string{
		"1 3 0", "1 3 0\n\n\n", "\n\n1 6 4 # one\n# none\n", "2 3 0\n1 1 2 3", "2 3 0\n\n0 0 1 2\n\n", "1048576 3 16", "3 3 1\n1 1 2 3 1\n2 1 2 3 1",
		"", "\n\n\n", "# no line\n \t\r\n",
	} {
		readIs(t, text, elefile.File{}, 0, api.ErrForm)
		asked(t, text)
	}
}
