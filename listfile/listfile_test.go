package listfile_test

import (
	"math/rand/v2"
	"reflect"
	"slices"
	"strconv"
	"testing"

	"trivet/api"
	"trivet/listfile"
)

func TestFirstExample(t *testing.T) {
	wantEdges := listfile.Edges{First: 1, Marks: true, L: []listfile.Edge{{A: 0, B: 1, Mark: 5}, {A: 1, B: -1, Mark: 0, Ray: api.Point{X: 0.5, Y: -1}}}}
	if f, at, err := listfile.ReadEdges("2 1\n1 1 2 5\n2 2 -1 1b-1 -1 0\n"); !reflect.DeepEqual(f, wantEdges) || at != 0 || err != api.OK {
		t.Error("ReadEdges:", f, at, err)
	}
	if text, err := listfile.WriteEdges(wantEdges); text != "2 1\n1 1 2 5\n2 2 -1 1b-1 -1 0\n" || err != api.OK {
		t.Errorf("WriteEdges: %q, %v", text, err)
	}
	wantNear := listfile.Near{First: 0, L: [][3]int{{-1, -1, -1}}}
	if f, at, err := listfile.ReadNear("1 3\n0 -1 -1 -1\n"); !reflect.DeepEqual(f, wantNear) || at != 0 || err != api.OK {
		t.Error("ReadNear:", f, at, err)
	}
	if text, err := listfile.WriteNear(wantNear); text != "1 3\n0 -1 -1 -1\n" || err != api.OK {
		t.Errorf("WriteNear: %q, %v", text, err)
	}
	wantAreas := listfile.Areas{First: 1, L: []float64{2.5}}
	if f, at, err := listfile.ReadAreas("1\n1 5b-1\n"); !reflect.DeepEqual(f, wantAreas) || at != 0 || err != api.OK {
		t.Error("ReadAreas:", f, at, err)
	}
	if text, err := listfile.WriteAreas(wantAreas); text != "1\n1 5b-1\n" || err != api.OK {
		t.Errorf("WriteAreas: %q, %v", text, err)
	}
}

func TestSecondExample(t *testing.T) {
	refused(t, edges, "1 2\n", 1, api.ErrForm)
	refused(t, near, "1 4\n", 1, api.ErrForm)
	refused(t, areas, "-1\n", 1, api.ErrForm)
	refused(t, edges, "1 0\n0 0 1 5\n", 2, api.ErrForm)
	refused(t, near, "1 3\n1 0 1 1\n", 2, api.ErrIndex)
	refused(t, areas, "1\n", 0, api.ErrForm)
}

// sort tells sheets apart by what may not be missing among drawn ones.
func sort(s sheet) string {
	rays := slices.ContainsFunc(s.rows, func(r row) bool { return s.kind == edges && r.n[1] == -1 })
	return string(s.kind) + strconv.Itoa(s.first) + strconv.FormatBool(s.marks) + strconv.FormatBool(rays)
}

// P13.1: the file is known ahead of the text that is made of it.
func TestDrawnRead(t *testing.T) {
	r := rand.New(rand.NewPCG(13, 1))
	sorts := map[string]int{}
	for _, k := range kinds {
		for range 4000 {
			s := drawnSheet(r, k)
			l, err := modelLines(s)
			if err != api.OK {
				t.Fatal("the model's lines:", err)
			}
			readIs(t, plain(l), s, 0, api.OK)
			text, _ := widened(r, l)
			readIs(t, text, s, 0, api.OK)
			asked(t, k, text)
			if len(s.rows) > 0 {
				sorts[sort(s)]++
			}
		}
	}
	for sort, count := range sorts {
		if count < 200 || len(sorts) != 12 {
			t.Errorf("of the sort %s, one of %d, there are %d", sort, len(sorts), count)
		}
	}
}

// P13.2, with texts put together by the model.
func TestDrawnWritten(t *testing.T) {
	r := rand.New(rand.NewPCG(13, 2))
	for _, k := range kinds {
		for range 4000 {
			s := drawnSheet(r, k)
			s.first = r.IntN(2)
			l, _ := modelLines(s)
			if text, err := writeIs(t, s); text != plain(l) || err != api.OK {
				t.Fatalf("of %v is written: %q, %v, want %q", s, text, err, plain(l))
			}
		}
	}
}

// P13.1, on lines of which some are wrong, with one fault or more.
func TestDrawnFaults(t *testing.T) {
	r := rand.New(rand.NewPCG(13, 3))
	for _, k := range kinds {
		errs := map[api.Errno]int{}
		for range 40000 {
			l, _ := modelLines(drawnSheet(r, k))
			for range 1 + r.IntN(2)*r.IntN(3) {
				l = spoilt(r, l)
			}
			text := plain(l)
			if r.IntN(2) == 0 {
				text, _ = widened(r, l)
			}
			errs[asked(t, k, text)]++
		}
		if errs[api.OK] < 1000 || errs[api.ErrForm] < 3000 || errs[api.ErrFull] < 300 || k != near && errs[api.ErrRange] < 150 || k != areas && errs[api.ErrIndex] < 500 {
			t.Error("of the errors of", k, "there are", errs)
		}
	}
}

// P13.2, on drawn files with drawn faults.
func TestDrawnWrongFiles(t *testing.T) {
	r := rand.New(rand.NewPCG(13, 4))
	for _, k := range kinds {
		errs := map[api.Errno]int{}
		for range 20000 {
			s := drawnSheet(r, k)
			for range r.IntN(3) {
				spoil(r, &s)
			}
			_, err := writeIs(t, s)
			errs[err]++
		}
		if errs[api.OK] < 3000 || errs[api.ErrArg] < 3000 {
			t.Error("of the errors of", k, "there are", errs)
		}
	}
}

// R3: what is read lies in memory of its own; what is written there, or added to
// it, is seen in no later answer.
func TestOwnMemory(t *testing.T) {
	r := rand.New(rand.NewPCG(13, 5))
	for range 200 {
		for _, k := range kinds {
			s := drawnSheet(r, k)
			text, _ := writeIs(t, s)
			switch k {
			case edges:
				f, _, _ := listfile.ReadEdges(text)
				overwritten(f.L, listfile.Edge{A: 99, B: 99})
			case near:
				f, _, _ := listfile.ReadNear(text)
				overwritten(f.L, [3]int{99, 99, 99})
			case areas:
				f, _, _ := listfile.ReadAreas(text)
				overwritten(f.L, 99)
			}
			readIs(t, text, s, 0, api.OK)
		}
	}
}

func overwritten[T any](l []T, by T) {
	l = append(l, by)
	for i := range l[:cap(l)] {
		l[:cap(l)][i] = by
	}
}

// R2: the same texts and files, whatever came between, are answered the same.
func TestAskedAgain(t *testing.T) {
	texts := []string{"2 1\n1 1 2 5\n2 2 -1 1b-1 -1 0", "1 3\n0 1 1 1", "1\n1 5b-1", "1 0\n2 1 1", "", "0", "0 0", "0 3", "1048577", "1 1\n0 0 -1 1 1 -5"}
	for _, text := range texts {
		for _, k := range kinds {
			first, at, err := read(k, text)
			for _, other := range texts {
				for _, k := range kinds {
					s, _, _ := read(k, other)
					writeIs(t, s)
					written(t, sheet{kind: k, first: 2}, api.ErrArg)
				}
			}
			readIs(t, text, first, at, err)
			asked(t, k, text)
		}
	}
}
