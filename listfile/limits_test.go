package listfile_test

import (
	"strconv"
	"strings"
	"testing"

	"trivet/api"
	"trivet/listfile"
)

// MaxPoints things told in the first line, and one more, ahead of any thing.
func TestMostTold(t *testing.T) {
	for head, k := range map[string]kind{" 0": edges, " 1": edges, " 3": near, "": areas} {
		refused(t, k, "1048576"+head, 0, api.ErrForm)
		refused(t, k, "1048576"+head+"\n2 0 0", 2, api.ErrForm)
		refused(t, k, "1048577"+head, 1, api.ErrFull)
		refused(t, k, "1048577"+head+"\n2 0 0", 1, api.ErrFull)
	}
}

// As many things as there may be, written and read; and one more, and one less.
func most[T comparable](t *testing.T, one func(i int) T, write func(first int, l []T) (string, api.Errno), read func(text string) (int, []T, int, api.Errno)) {
	t.Helper()
	things := make([]T, api.MaxPoints+1)
	for i := range things {
		things[i] = one(i)
	}
	for first := range 2 {
		text, err := write(first, things[:api.MaxPoints])
		if err != api.OK {
			t.Fatal("MaxPoints things are written:", err)
		}
		readFirst, l, at, err := read(text)
		if readFirst != first || len(l) != api.MaxPoints || at != 0 || err != api.OK {
			t.Fatal("MaxPoints things are read:", readFirst, len(l), at, err)
		}
		for i := range l {
			if l[i] != things[i] {
				t.Fatalf("the thing at %d of MaxPoints is read: %v, want %v", i, l[i], things[i])
			}
		}
		more := text + strconv.Itoa(api.MaxPoints+first) + " 1 1 1\n"
		if readFirst, l, at, err := read(more); readFirst != 0 || len(l) != 0 || at != api.MaxPoints+2 || err != api.ErrForm {
			t.Error("a line more is read:", readFirst, len(l), at, err)
		}
		less := text[:strings.LastIndex(text[:len(text)-1], "\n")]
		if readFirst, l, at, err := read(less); readFirst != 0 || len(l) != 0 || at != 0 || err != api.ErrForm {
			t.Error("a line less is read:", readFirst, len(l), at, err)
		}
		if text, err := write(first, things); text != "" || err != api.ErrArg {
			t.Error("a thing more is written:", len(text), err)
		}
	}
}

func TestMostThings(t *testing.T) {
	most(t, func(i int) listfile.Edge { return listfile.Edge{A: i % 9, B: i % 7} },
		func(first int, l []listfile.Edge) (string, api.Errno) {
			return listfile.WriteEdges(listfile.Edges{First: first, L: l})
		},
		func(text string) (int, []listfile.Edge, int, api.Errno) {
			f, at, err := listfile.ReadEdges(text)
			return f.First, f.L, at, err
		})
	most(t, func(i int) [3]int { return [3]int{i % 9, i%7 - 1, i % 5} },
		func(first int, l [][3]int) (string, api.Errno) {
			return listfile.WriteNear(listfile.Near{First: first, L: l})
		},
		func(text string) (int, [][3]int, int, api.Errno) {
			f, at, err := listfile.ReadNear(text)
			return f.First, f.L, at, err
		})
	most(t, func(i int) float64 { return float64(i % 9) },
		func(first int, l []float64) (string, api.Errno) {
			return listfile.WriteAreas(listfile.Areas{First: first, L: l})
		},
		func(text string) (int, []float64, int, api.Errno) {
			f, at, err := listfile.ReadAreas(text)
			return f.First, f.L, at, err
		})
}

// long is a sheet that may be, and whose text has more than 16 bytes for each of as
// many things as there may be.
func long(k kind) sheet {
	s := sheet{kind: k, first: 1}
	const x = -0x1.fffffffffffffp-1022
	one := map[kind]row{edges: ray(1048575, 0, x, x), near: three(1048575, 1048575, 1048575), areas: area(x)}[k]
	for range 800000 {
		s.rows = append(s.rows, one)
	}
	return s
}

// A file that may be, and whose text would be too long: what lines.Write answers.
// That it may not be comes ahead.
func TestTooLongToWrite(t *testing.T) {
	for _, k := range kinds {
		s := long(k)
		if text, err, _ := write(s); text != "" || err != api.ErrFull {
			t.Errorf("of %s are written: %d bytes, %v", k, len(text), err)
		}
		s.first = 2
		if text, err, _ := write(s); text != "" || err != api.ErrArg {
			t.Errorf("of %s that may not be are written: %d bytes, %v", k, len(text), err)
		}
		s.first, s.rows = 1, s.rows[:200000]
		text, err, _ := write(s)
		if err != api.OK {
			t.Fatal("of fewer", k, "are written:", err)
		}
		readIs(t, text, s, 0, api.OK)
	}
}

// A float's text can be longer than another text of the same float: what was read
// of a long text can be too long to be written.
func TestLongerThanItWas(t *testing.T) {
	var text strings.Builder
	text.WriteString("900000\n")
	for i := range 900000 {
		text.WriteString(strconv.Itoa(i) + " 1b52\n")
	}
	f, at, err := listfile.ReadAreas(text.String())
	if len(f.L) != 900000 || at != 0 || err != api.OK {
		t.Fatal("ReadAreas:", len(f.L), at, err)
	}
	if between, err := listfile.WriteAreas(f); between != "" || err != api.ErrFull {
		t.Errorf("WriteAreas: %d bytes, %v", len(between), err)
	}
}
