package polyfile_test

import (
	"math"
	"math/rand/v2"
	"strings"
	"testing"

	"trivet/api"
	"trivet/nodefile"
	"trivet/polyfile"
)

// P12.3: what is written is read as it was, to the last bit.
func TestWrittenRead(t *testing.T) {
	r := rand.New(rand.NewPCG(12, 6))
	for range 10000 {
		f := drawnFile(r)
		text, err := polyfile.Write(f)
		if err != api.OK {
			t.Fatal("Write:", err)
		}
		readIs(t, text, otherOf(r, f), f, 0, api.OK)
	}
}

// otherWords tells some of the floats in another way. Where there is a b there
// is no whole number.
func otherWords(l [][]string) [][]string {
	for _, words := range l {
		for k, word := range words {
			n, power, found := strings.Cut(word, "b")
			size, _ := modelInt(n)
			e, _ := modelInt(power)
			if found && size < 1<<40 && size > -1<<40 {
				words[k] = modelText(float64(size*8)) + "b" + modelText(float64(e-3))
			}
		}
	}
	return l
}

// P12.3: what is read is written, and read the same; and written the same again.
func TestReadWrittenRead(t *testing.T) {
	r := rand.New(rand.NewPCG(12, 7))
	changed := 0
	for range 10000 {
		f := drawnFile(r)
		l, _ := modelLines(f)
		text, _ := widened(r, otherWords(l))
		other := otherOf(r, f)
		first, _, err := polyfile.Read(text, other)
		if err != api.OK {
			t.Fatalf("Read of %q: %v", text, err)
		}
		written, err := polyfile.Write(first)
		if err != api.OK {
			t.Fatal("Write:", err)
		}
		readIs(t, written, other, first, 0, api.OK)
		again, _, _ := polyfile.Read(written, other)
		if twice, err := polyfile.Write(again); twice != written || err != api.OK {
			t.Fatalf("%q, read and written: %q, %v", written, twice, err)
		}
		if written != text {
			changed++
		}
	}
	if changed < 9000 {
		t.Error("but", changed, "texts were not as they are written")
	}
}

// P12.3 with -0 in the other file: it stands there as it stood.
func TestReadWrittenReadElsewhere(t *testing.T) {
	minus := math.Copysign(0, -1)
	other := nodefile.File{Attrs: 1, Nodes: []api.Node{{P: point(minus, 1), Attr: []float64{minus}}, {P: point(1, minus), Attr: []float64{5}}}}
	first, _, err := polyfile.Read("0 2 7 1\n1 0\n1 2 1\n0\n0\n", other)
	if err != api.OK {
		t.Fatal("Read:", err)
	}
	written, err := polyfile.Write(first)
	if written != "0 2 1 0\n1 0\n1 2 1\n0\n" || err != api.OK {
		t.Fatalf("Write: %q, %v", written, err)
	}
	readIs(t, written, other, first, 0, api.OK)
}

// Remarks, blanks and lines without words change nothing of what is read, and
// of what is refused just the number of the line.
func TestWidened(t *testing.T) {
	r := rand.New(rand.NewPCG(12, 8))
	for range 10000 {
		f := drawnFile(r)
		l, _ := modelLines(f)
		if r.IntN(2) == 0 {
			l = spoilt(r, l)
		}
		other := otherOf(r, f)
		want, wantAt, wantErr := polyfile.Read(plain(l), other)
		text, at := widened(r, l)
		switch {
		case wantErr == api.OK || len(l) == 0: // at no line, or at one that there is not
		case wantAt > len(at):
			wantAt = at[len(at)-1] + 1
		default:
			wantAt = at[wantAt-1]
		}
		readIs(t, text, other, want, wantAt, wantErr)
	}
}
