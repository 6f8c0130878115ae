package nodefile_test

import (
	"math/rand/v2"
	"testing"

	"trivet/api"
	"trivet/lines"
	"trivet/nodefile"
)

// lined are lines as Take is handed them, numbered one by one.
func lined(l [][]string) []lines.Line {
	var all []lines.Line
	for i, words := range l {
		all = append(all, lines.Line{No: i + 1, Words: words})
	}
	return all
}

// P10.3: what is written is read as it was, to the last bit; what is put, taken.
func TestWrittenRead(t *testing.T) {
	r := rand.New(rand.NewPCG(10, 5))
	for range 4000 {
		f := drawnFile(r)
		text, err := nodefile.Write(f)
		if err != api.OK {
			t.Fatal("Write:", err)
		}
		readIs(t, text, f, 0, api.OK)
		l, err := nodefile.Put(f)
		if err != api.OK {
			t.Fatal("Put:", err)
		}
		takeIs(t, lined(l), f, len(l), 0, api.OK)
	}
}

// otherWords tells some of the floats in another way.
func otherWords(r *rand.Rand, l [][]string, f nodefile.File) [][]string {
	for i, words := range l {
		if i == 0 {
			continue
		}
		for k := 1; k < 3+f.Attrs; k++ {
			if n, fits := modelInt(words[k]); fits && n < 1<<40 && n > -1<<40 && r.IntN(2) == 0 {
				words[k] = modelText(float64(n*8)) + "b-3"
			}
		}
	}
	return l
}

// P10.3: what is read is written, and read the same; and written the same again.
func TestReadWrittenRead(t *testing.T) {
	r := rand.New(rand.NewPCG(10, 6))
	changed := 0
	for range 4000 {
		f := drawnFile(r)
		l, _ := modelPut(f)
		text, _ := widened(r, otherWords(r, l, f))
		first, _, err := nodefile.Read(text)
		if err != api.OK {
			t.Fatalf("Read of %q: %v", text, err)
		}
		written, err := nodefile.Write(first)
		if err != api.OK {
			t.Fatal("Write:", err)
		}
		readIs(t, written, first, 0, api.OK)
		again, _, _ := nodefile.Read(written)
		if twice, err := nodefile.Write(again); twice != written || err != api.OK {
			t.Fatalf("%q, read and written: %q, %v", written, twice, err)
		}
		if written != text {
			changed++
		}
	}
	if changed < 3000 {
		t.Error("but", changed, "texts were not as they are written")
	}
}

// P10.4: remarks, blanks and lines without words change nothing of what is read,
// and of what is refused just the number of the line.
func TestWidened(t *testing.T) {
	r := rand.New(rand.NewPCG(10, 7))
	kinds := map[api.Errno]int{}
	for range 10000 {
		l, _ := modelPut(drawnFile(r))
		if r.IntN(2) == 0 {
			l = spoilt(r, l)
		}
		want, wantAt, wantErr := nodefile.Read(plain(l))
		kinds[wantErr]++
		text, at := widened(r, l)
		switch {
		case wantErr == api.OK || len(l) == 0: // at no line, or at one that there is not
		case wantAt > len(at):
			wantAt = at[len(at)-1] + 1
		default:
			wantAt = at[wantAt-1]
		}
		readIs(t, text, want, wantAt, wantErr)
	}
	if kinds[api.OK] < 4000 || kinds[api.ErrForm] < 1000 || kinds[api.ErrRange] < 100 {
		t.Error("of the kinds there are", kinds)
	}
}

// P10.4, one thing at a time.
func TestOneThingMore(t *testing.T) {
	want := nodefile.File{Zero: true, Attrs: 1, Marks: true, Nodes: []api.Node{node(1, 2, 4, 3), node(0.5, -1, -4, 0)}}
	for _, text := range []string{
		"2 2 1 1\n0 1 2 3 4\n1 1b-1 -1 0 -4", "2 2 1 1\n0 1 2 3 4\n1 1b-1 -1 0 -4\n", "2 2 1 1\r\n0 1 2 3 4\r\n1 1b-1 -1 0 -4\r\n",
		" 2 2 1 1\n0\t1\t2\t3\t4\n1 1b-1  -1 0 -4 ", "# nodes\n2 2 1 1\n0 1 2 3 4\n1 1b-1 -1 0 -4", "2 2 1 1 # nodes\n0 1 2 3 4#5\n1 1b-1 -1 0 -4\n#",
		"\n\n2 2 1 1\n\n0 1 2 3 4\n\n\n1 1b-1 -1 0 -4\n\n", "2 2 1 1\n#\n0 1 2 3 4\n \t\n# 9 9 9\n1 1b-1 -1 0 -4\n# \x00\xff\n",
	} {
		readIs(t, text, want, 0, api.OK)
		asked(t, text)
	}
}
