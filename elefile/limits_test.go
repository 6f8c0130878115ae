package elefile_test

import (
	"strings"
	"testing"

	"trivet/api"
	"trivet/digits"
	"trivet/elefile"
)

// MaxPoints triangles told in the first line, and one more, ahead of any triangle.
func TestMostTrianglesTold(t *testing.T) {
	readIs(t, "1048576 3 0", elefile.File{}, 0, api.ErrForm)
	readIs(t, "1048576 6 16\n2 0 0", elefile.File{}, 2, api.ErrForm)
	readIs(t, "1048577 3 0", elefile.File{}, 1, api.ErrFull)
	readIs(t, "1048577 6 0\n2 0 0", elefile.File{}, 1, api.ErrFull)
}

// many are triangles that are told by few bytes.
func many(count int) []elefile.Row {
	rows := make([]elefile.Row, count)
	for i := range rows {
		rows[i].T = []int{i % 9, i % 7, i % 5}
	}
	return rows
}

// As many triangles as there may be, written and read; and one more.
func TestMostTriangles(t *testing.T) {
	rows := many(api.MaxPoints + 1)
	for first := range 2 {
		f := elefile.File{First: first, Corners: 3, L: rows[:api.MaxPoints]}
		text, err := elefile.Write(f)
		if err != api.OK {
			t.Fatal("Write of MaxPoints triangles:", err)
		}
		readIs(t, text, f, 0, api.OK)
		readIs(t, text+digits.Show(api.MaxPoints+first)+" 1 1 1\n", elefile.File{}, api.MaxPoints+2, api.ErrForm)
		readIs(t, text[:strings.LastIndex(text[:len(text)-1], "\n")], elefile.File{}, 0, api.ErrForm)
		f.L = rows
		if text, err := elefile.Write(f); text != "" || err != api.ErrArg {
			t.Error("Write of a triangle more:", len(text), err)
		}
	}
}

// long is a file that may be, and whose text has some 400 bytes for each triangle.
func long(count int) elefile.File {
	attrs := make([]float64, api.MaxAttrs)
	for i := range attrs {
		attrs[i] = -0x1.fffffffffffffp-1022
	}
	f := elefile.File{First: 1, Corners: 6, Attrs: api.MaxAttrs}
	for range count {
		f.L = append(f.L, elefile.Row{T: make([]int, 6), A: attrs})
	}
	return f
}

// A file that may be, and whose text would be too long: what lines.Write answers.
func TestTooLongToWrite(t *testing.T) {
	f := long(45000)
	if text, err := writeIs(t, f); text != "" || err != api.ErrFull {
		t.Errorf("Write: %d bytes, %v", len(text), err)
	}
	f.L[44999].T = make([]int, 5)
	if _, err := writeIs(t, f); err != api.ErrArg {
		t.Error("Write of a file that may not be, and is too long:", err)
	}
	f = long(30000)
	text, err := writeIs(t, f)
	if err != api.OK {
		t.Fatal("Write of fewer triangles:", err)
	}
	readIs(t, text, f, 0, api.OK)
}

// A float's text can be longer than another text of the same float: what was
// read of a long text can be too long to be written.
func TestLongerThanItWas(t *testing.T) {
	var text strings.Builder
	text.WriteString("150000 3 16\n")
	for i := range 150000 {
		text.WriteString(digits.Show(i) + " 0 0 0" + strings.Repeat(" 1b52", 16) + "\n")
	}
	f, at, err := elefile.Read(text.String())
	if len(f.L) != 150000 || at != 0 || err != api.OK {
		t.Fatal("Read:", len(f.L), at, err)
	}
	if written, err := elefile.Write(f); written != "" || err != api.ErrFull {
		t.Errorf("Write: %d bytes, %v", len(written), err)
	}
}
