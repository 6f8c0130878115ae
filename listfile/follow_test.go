package listfile_test

import (
	"math"
	"math/rand/v2"
	"slices"
	"testing"

	"trivet/api"
)

// P13.3: what is written is read as it was, to the last bit.
func TestWrittenRead(t *testing.T) {
	r := rand.New(rand.NewPCG(13, 6))
	for _, k := range kinds {
		for range 4000 {
			s := drawnSheet(r, k)
			text, err, _ := write(s)
			if err != api.OK {
				t.Fatalf("%v is written: %v", s, err)
			}
			readIs(t, text, s, 0, api.OK)
		}
	}
}

// P13.3: but First as 0, if there is nothing, and -0 as 0.
func TestWrittenReadOtherwise(t *testing.T) {
	r := rand.New(rand.NewPCG(13, 7))
	for _, k := range kinds {
		changed := 0
		for range 3000 {
			want := drawnSheet(r, k)
			s := want
			s.rows = nil
			for _, one := range want.rows {
				x := slices.Clone(one.x)
				for i := range x {
					if r.IntN(3) == 0 || x[i] == 0 {
						x[i], one.x[i] = math.Copysign(0, -1), 0
						changed++
					}
				}
				s.rows = append(s.rows, row{one.n, x})
			}
			if len(s.rows) == 0 {
				s.first = 1
				changed++
			}
			text, err, _ := write(s)
			if err != api.OK {
				t.Fatalf("%v is written: %v", s, err)
			}
			readIs(t, text, want, 0, api.OK)
		}
		if changed < 300 {
			t.Error("of", k, "there were but", changed, "changes")
		}
	}
}

// otherWords tells some of the floats in another way.
func otherWords(r *rand.Rand, l [][]string, s sheet) [][]string {
	for _, words := range l[1:] {
		third := ""
		if len(words) > 2 {
			third = words[2]
		}
		for i, c := range shape(s.kind, s.marks, third) {
			if n, fits := modelInt(words[i]); c == 'f' && fits && n < 1<<40 && n > -1<<40 && r.IntN(2) == 0 {
				words[i] = modelText(float64(n*8)) + "b-3"
			}
		}
	}
	return l
}

// P13.3: what is read and written is read as the same; and written the same again.
func TestReadWrittenRead(t *testing.T) {
	r := rand.New(rand.NewPCG(13, 8))
	for _, k := range kinds {
		changed := 0
		for range 4000 {
			s := drawnSheet(r, k)
			l, _ := modelLines(s)
			text, _ := widened(r, otherWords(r, l, s))
			first, _, err := read(k, text)
			if err != api.OK {
				t.Fatalf("%q is read: %v", text, err)
			}
			between, err, _ := write(first)
			if err != api.OK {
				t.Fatalf("%v is written: %v", first, err)
			}
			readIs(t, between, first, 0, api.OK)
			again, _, _ := read(k, between)
			if twice, err, _ := write(again); twice != between || err != api.OK {
				t.Fatalf("%q, read and written: %q, %v", between, twice, err)
			}
			if between != text {
				changed++
			}
		}
		if changed < 3000 {
			t.Error("of", k, "but", changed, "texts were not as they are written")
		}
	}
}

// Remarks, blanks and lines without words change nothing of what is read, and of
// what is refused just the number of the line.
func TestWidened(t *testing.T) {
	r := rand.New(rand.NewPCG(13, 9))
	for _, k := range kinds {
		errs := map[api.Errno]int{}
		for range 8000 {
			l, _ := modelLines(drawnSheet(r, k))
			if r.IntN(2) == 0 {
				l = spoilt(r, l)
			}
			want, wantAt, wantErr := read(k, plain(l))
			errs[wantErr]++
			text, at := widened(r, l)
			if wantAt > 0 {
				wantAt = at[wantAt-1]
			}
			readIs(t, text, want, wantAt, wantErr)
		}
		if errs[api.OK] < 3000 || errs[api.ErrForm] < 1000 || k != near && errs[api.ErrRange] < 20 || k != areas && errs[api.ErrIndex] < 50 {
			t.Error("of the errors of", k, "there are", errs)
		}
	}
}
