package elefile_test

import (
	"math"
	"math/rand/v2"
	"testing"

	"trivet/api"
	"trivet/elefile"
)

// P11.3: what is written is read as it was, to the last bit.
func TestWrittenRead(t *testing.T) {
	r := rand.New(rand.NewPCG(11, 5))
	for range 4000 {
		f := drawnFile(r)
		text, err := elefile.Write(f)
		if err != api.OK {
			t.Fatal("Write:", err)
		}
		readIs(t, text, f, 0, api.OK)
	}
}

// P11.3: but First as 0, if there are no triangles, and -0 as 0.
func TestWrittenReadOtherwise(t *testing.T) {
	r := rand.New(rand.NewPCG(11, 6))
	changed := 0
	for range 2000 {
		want := drawnFile(r)
		f := want
		f.L = nil
		for _, row := range want.L {
			a := append([]float64(nil), row.A...)
			for i := range a {
				if r.IntN(4) == 0 {
					a[i], row.A[i] = math.Copysign(0, -1), 0
					changed++
				}
			}
			f.L = append(f.L, elefile.Row{T: row.T, A: a})
		}
		if len(f.L) == 0 {
			f.First = 1
			changed++
		}
		text, err := elefile.Write(f)
		if err != api.OK {
			t.Fatal("Write:", err)
		}
		readIs(t, text, want, 0, api.OK)
	}
	if changed < 2000 {
		t.Error("there were but", changed, "changes")
	}
}

// otherWords tells some of the attributes in another way.
func otherWords(r *rand.Rand, l [][]string, f elefile.File) [][]string {
	for _, words := range l[1:] {
		for k := 1 + f.Corners; k < len(words); k++ {
			if n, fits := modelInt(words[k]); fits && n < 1<<40 && n > -1<<40 && r.IntN(2) == 0 {
				words[k] = modelText(float64(n*8)) + "b-3"
			}
		}
	}
	return l
}

// P11.4: what is read and written is read as the same file; and written the same
// again.
func TestReadWrittenRead(t *testing.T) {
	r := rand.New(rand.NewPCG(11, 7))
	changed := 0
	for range 4000 {
		f := drawnFile(r)
		l, _ := modelLines(f)
		text, _ := widened(r, otherWords(r, l, f))
		first, _, err := elefile.Read(text)
		if err != api.OK {
			t.Fatalf("Read of %q: %v", text, err)
		}
		written, err := elefile.Write(first)
		if err != api.OK {
			t.Fatal("Write:", err)
		}
		readIs(t, written, first, 0, api.OK)
		again, _, _ := elefile.Read(written)
		if twice, err := elefile.Write(again); twice != written || err != api.OK {
			t.Fatalf("%q, read and written: %q, %v", written, twice, err)
		}
		if written != text {
			changed++
		}
	}
	if changed < 3000 {
		t.Error("but", changed, "texts were not as they are written")
	}
}

// Remarks, blanks and lines without words change nothing of what is read, and of
// what is refused just the number of the line.
func TestWidened(t *testing.T) {
	r := rand.New(rand.NewPCG(11, 8))
	kinds := map[api.Errno]int{}
	for range 10000 {
		l, _ := modelLines(drawnFile(r))
		if r.IntN(2) == 0 {
			l = spoilt(r, l)
		}
		want, wantAt, wantErr := elefile.Read(plain(l))
		kinds[wantErr]++
		text, at := widened(r, l)
		if wantAt > 0 {
			wantAt = at[wantAt-1]
		}
		readIs(t, text, want, wantAt, wantErr)
	}
	if kinds[api.OK] < 4000 || kinds[api.ErrForm] < 1000 || kinds[api.ErrRange] < 50 || kinds[api.ErrIndex] < 50 {
		t.Error("of the kinds there are", kinds)
	}
}
