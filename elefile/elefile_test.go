package elefile_test

import (
	"math/rand/v2"
	"slices"
	"strconv"
	"testing"

	"trivet/api"
	"trivet/elefile"
)

const exampleText = "2 3 1\n1 1 2 3 1b-1\n2 2 4 3 -1\n"

func exampleFile() elefile.File {
	return elefile.File{First: 1, Corners: 3, Attrs: 1, L: []elefile.Row{
		{T: []int{0, 1, 2}, A: []float64{0.5}},
		{T: []int{1, 3, 2}, A: []float64{-1}},
	}}
}

func TestFirstExample(t *testing.T) {
	readIs(t, exampleText, exampleFile(), 0, api.OK)
	if got, err := elefile.Write(exampleFile()); got != exampleText || err != api.OK {
		t.Errorf("Write: %q, %v", got, err)
	}
}

func TestSecondExample(t *testing.T) {
	for _, x := range []struct {
		text string
		at   int
		err  api.Errno
	}{
		{"", 0, api.ErrForm}, {"1 3 0\n", 0, api.ErrForm}, {"1 4 0\n", 1, api.ErrForm}, {"1 3 0 0\n", 1, api.ErrForm},
		{"1 3 0\n2 1 2 3\n", 2, api.ErrForm}, {"1 3 0\n1 1 2\n", 2, api.ErrForm}, {"1 3 0\n1 0 1 2\n", 2, api.ErrIndex},
		{"0 3 17\n", 1, api.ErrFull}, {"0 3 0\n\n1\n", 3, api.ErrForm},
	} {
		readIs(t, x.text, elefile.File{}, x.at, x.err)
		asked(t, x.text)
	}
}

// P11.1: the file is known ahead of the text that is made of it.
func TestDrawnFilesRead(t *testing.T) {
	r := rand.New(rand.NewPCG(11, 1))
	kinds := map[string]int{}
	for range 4000 {
		f := drawnFile(r)
		l, err := modelLines(f)
		if err != api.OK {
			t.Fatal("the model's lines:", err)
		}
		readIs(t, plain(l), f, 0, api.OK)
		text, _ := widened(r, l)
		readIs(t, text, f, 0, api.OK)
		asked(t, text)
		if len(f.L) > 0 {
			kinds[strconv.Itoa(f.First)+strconv.Itoa(f.Corners)+strconv.FormatBool(f.Attrs > 0)]++
		}
	}
	for kind, count := range kinds {
		if count < 200 || len(kinds) != 8 {
			t.Errorf("of the kind %s, one of %d, there are %d", kind, len(kinds), count)
		}
	}
}

// P11.2, with texts put together by the model.
func TestDrawnFilesWritten(t *testing.T) {
	r := rand.New(rand.NewPCG(11, 2))
	for range 4000 {
		f := drawnFile(r)
		f.First = r.IntN(2)
		l, _ := modelLines(f)
		if text, err := writeIs(t, f); text != plain(l) || err != api.OK {
			t.Fatalf("Write: %q, %v, want %q", text, err, plain(l))
		}
	}
}

// oddWord is one that is wrong in some places, or in all.
func oddWord(r *rand.Rand) string {
	return []string{
		"0", "1", "2", "3", "6", "7", "-1", "16", "17", "1048575", "1048576", "1048577", "x", "-0", "01", "+1", "1.5", "3b-2", "1b53", "1b1024", "1b-1075",
		"9007199254740993", "9223372036854775807", "9223372036854775808", "-9223372036854775808", "1b", "b1",
	}[r.IntN(27)]
}

// spoilt are lines with one thing changed: a word, a word more or less, a line
// more or less, two lines the other way about.
func spoilt(r *rand.Rand, l [][]string) [][]string {
	if len(l) == 0 {
		return l
	}
	i := r.IntN(len(l))
	k, word := r.IntN(max(len(l[i]), 1)), oddWord(r)
	switch kind := r.IntN(14); {
	case kind == 0 && len(l[i]) > 1:
		l[i] = slices.Delete(slices.Clone(l[i]), k, k+1)
	case kind == 1:
		l[i] = slices.Insert(slices.Clone(l[i]), k, word)
	case kind == 2:
		l = slices.Delete(l, i, i+1)
	case kind == 3:
		l = slices.Insert(l, i, []string{word})
	case kind == 4:
		k := r.IntN(len(l))
		l[i], l[k] = l[k], l[i]
	case kind == 5:
		l = append(l, l[i])
	default:
		l[i] = slices.Clone(l[i])
		l[i][k] = word
	}
	return l
}

// P11.1, on lines of which some are wrong, with one fault or more.
func TestDrawnFaults(t *testing.T) {
	r := rand.New(rand.NewPCG(11, 3))
	kinds := map[api.Errno]int{}
	for range 60000 {
		l, _ := modelLines(drawnFile(r))
		for range 1 + r.IntN(2)*r.IntN(3) {
			l = spoilt(r, l)
		}
		text := plain(l)
		if r.IntN(2) == 0 {
			text, _ = widened(r, l)
		}
		kinds[asked(t, text)]++
	}
	if kinds[api.OK] < 3000 || kinds[api.ErrForm] < 3000 || kinds[api.ErrRange] < 500 || kinds[api.ErrIndex] < 500 || kinds[api.ErrFull] < 300 {
		t.Error("of the kinds there are", kinds)
	}
}

// R3: rows, corners and attributes behind the ends of lists are not looked at.
func TestSpareRoom(t *testing.T) {
	numbers := []int{0, 1, 2, -5, 3, 4, 1 << 20}
	attrs := []float64{1, 2, 3}
	rows := []elefile.Row{{T: numbers[:3], A: attrs[:1]}, {T: numbers[1:3:3], A: attrs[:1]}, {T: numbers, A: nil}}
	rows[1].T = append(rows[1].T, 5)
	for count, want := range []api.Errno{api.OK, api.OK, api.OK, api.ErrArg} {
		if _, err := writeIs(t, elefile.File{Corners: 3, Attrs: 1, L: rows[:count]}); err != want {
			t.Errorf("Write of %d triangles: %v", count, err)
		}
	}
}

// R3: what is read lies in memory of its own; what is written there, or added to
// it, is seen in no other list, and in no later answer.
func TestOwnMemory(t *testing.T) {
	f := elefile.File{First: 1, Corners: 6, Attrs: 3}
	for i := range 40 {
		x := float64(i)
		f.L = append(f.L, elefile.Row{T: []int{i, i + 1, i + 2, i + 3, i + 4, i + 5}, A: []float64{x + 0.5, x, 0}})
	}
	text, _ := elefile.Write(f)
	read, _, _ := elefile.Read(text)
	for i, row := range read.L {
		corners, attrs := append(row.T, 99), append(row.A, 99)
		for _, list := range [][]int{corners, row.T[:cap(row.T)]} {
			for k := range list {
				list[k] = 99
			}
		}
		for _, list := range [][]float64{attrs, row.A[:cap(row.A)]} {
			for k := range list {
				list[k] = 99
			}
		}
		if !slices.EqualFunc(read.L[i+1:], f.L[i+1:], sameRow) {
			t.Fatal("two triangles share their memory")
		}
	}
	clear(read.L[:cap(read.L)])
	readIs(t, text, f, 0, api.OK)
}

// R2: the same texts and files, whatever came between, are answered the same.
func TestAskedAgain(t *testing.T) {
	f := exampleFile()
	for _, text := range []string{exampleText, "1 3 0\n0 1 1 1", "1 3 0\n2 1 1 1", "", "0 3 0", "0 6 17", "1 6 0\n1 1 2 3 4 5 6"} {
		first, at, err := elefile.Read(text)
		elefile.Read("1 3 0\n0 4 4 4")
		elefile.Write(f)
		elefile.Write(elefile.File{First: 2})
		readIs(t, text, first, at, err)
		asked(t, text)
	}
	writeIs(t, f)
	writeIs(t, f)
}
