package listfile_test

import (
	"math"
	"strconv"
	"testing"

	"trivet/api"
	"trivet/listfile"
)

// Without things First is read as 0, whatever was written.
func TestNoThings(t *testing.T) {
	for text, s := range map[string]sheet{
		"0 0\n": {kind: edges}, "0 1\n": {kind: edges, marks: true}, "0 3\n": {kind: near}, "0\n": {kind: areas},
	} {
		both(t, text, s)
		readIs(t, "\n # none\n"+text+"\n", s, 0, api.OK)
		s.first = 1
		if got, err := writeIs(t, s); got != text || err != api.OK {
			t.Errorf("of %v is written: %q, %v", s, got, err)
		}
		for _, first := range []int{-1, 2, math.MinInt64, math.MaxInt64} {
			s.first = first
			written(t, s, api.ErrArg)
		}
	}
}

// Nothing at all is a file, whose First is 0, of each kind.
func TestZeroFiles(t *testing.T) {
	if text, err := listfile.WriteEdges(listfile.Edges{}); text != "0 0\n" || err != api.OK {
		t.Errorf("WriteEdges: %q, %v", text, err)
	}
	if text, err := listfile.WriteNear(listfile.Near{}); text != "0 3\n" || err != api.OK {
		t.Errorf("WriteNear: %q, %v", text, err)
	}
	if text, err := listfile.WriteAreas(listfile.Areas{}); text != "0\n" || err != api.OK {
		t.Errorf("WriteAreas: %q, %v", text, err)
	}
}

// Edges and rays, with and without markers, from 0 on and from 1.
func TestEdges(t *testing.T) {
	plainRows := []row{edge(0, 1, 0), ray(2, 0, 0.5, -3), edge(4, 4, 0)}
	both(t, "3 0\n0 0 1\n1 2 -1 1b-1 -3\n2 4 4\n", sheet{kind: edges, rows: plainRows})
	both(t, "3 0\n1 1 2\n2 3 -1 1b-1 -3\n3 5 5\n", sheet{kind: edges, first: 1, rows: plainRows})
	both(t, "3 1\n0 0 1 0\n1 2 -1 1b-1 -3 0\n2 4 4 0\n", sheet{kind: edges, marks: true, rows: plainRows})
	markedRows := []row{edge(0, 1, 9), ray(2, -1, 0.5, -3), edge(4, 3, math.MinInt64), ray(0, math.MaxInt64, 0, 0)}
	both(t, "4 1\n0 0 1 9\n1 2 -1 1b-1 -3 -1\n2 4 3 -9223372036854775808\n3 0 -1 0 0 9223372036854775807\n", sheet{kind: edges, marks: true, rows: markedRows})
	both(t, "4 1\n1 1 2 9\n2 3 -1 1b-1 -3 -1\n3 5 4 -9223372036854775808\n4 1 -1 0 0 9223372036854775807\n", sheet{kind: edges, first: 1, marks: true, rows: markedRows})
}

// -1 at each place of neighbours, from 0 on and from 1, where it is not 0 less 1.
func TestNear(t *testing.T) {
	rows := []row{three(-1, -1, -1), three(-1, 0, 1), three(0, -1, 2), three(5, 0, -1), three(0, 0, 0)}
	both(t, "5 3\n0 -1 -1 -1\n1 -1 0 1\n2 0 -1 2\n3 5 0 -1\n4 0 0 0\n", sheet{kind: near, rows: rows})
	both(t, "5 3\n1 -1 -1 -1\n2 -1 1 2\n3 1 -1 3\n4 6 1 -1\n5 1 1 1\n", sheet{kind: near, first: 1, rows: rows})
}

// Areas from 0 on and from 1, of any finite number.
func TestAreas(t *testing.T) {
	rows := []row{area(0), area(2.5), area(-1), area(0x1p1023)}
	both(t, "4\n0 0\n1 5b-1\n2 -1\n3 1b1023\n", sheet{kind: areas, rows: rows})
	both(t, "4\n1 0\n2 5b-1\n3 -1\n4 1b1023\n", sheet{kind: areas, first: 1, rows: rows})
}

// The line's own number counts on beyond one digit.
func TestMoreThanTen(t *testing.T) {
	for first := range 2 {
		text, s := "120\n", sheet{kind: areas, first: first}
		for i := range 120 {
			text += strconv.Itoa(first+i) + " " + strconv.Itoa(i) + "\n"
			s.rows = append(s.rows, area(float64(i)))
		}
		both(t, text, s)
	}
}

// placed are the places at which a point's or a triangle's number stands: a line
// with it, read from first on, and a row with it.
func placed(s sheet, n int) map[string]row {
	word := strconv.Itoa(n + s.first)
	at := strconv.Itoa(s.first)
	if s.kind == near {
		return map[string]row{at + " " + word + " 2 2": three(n, 2-s.first, 2-s.first), at + " 2 " + word + " 2": three(2-s.first, n, 2-s.first), at + " 2 2 " + word: three(2-s.first, 2-s.first, n)}
	}
	return map[string]row{at + " " + word + " 2": edge(n, 2-s.first, 0), at + " 2 " + word: edge(2-s.first, n, 0), at + " " + word + " -1 2 2": ray(n, 0, 2, 2)}
}

// The first and the last point and triangle that may be, at each place, and one
// beside these.
func TestEndsOfNumbers(t *testing.T) {
	for first := range 2 {
		for _, k := range []kind{edges, near} {
			head := map[kind]string{edges: "1 0\n", near: "1 3\n"}[k]
			s := sheet{kind: k, first: first}
			for _, n := range []int{0, 1, 1048574, 1048575} {
				for line, r := range placed(s, n) {
					both(t, head+line+"\n", sheet{kind: k, first: first, rows: []row{r}})
				}
			}
			for _, n := range []int{-2, 1048576, 1048577, math.MinInt64, math.MaxInt64 - 1} {
				for line, r := range placed(s, n) {
					if n+first != -1 { // which stands for none, or for a ray
						refused(t, k, head+line+"\n", 2, api.ErrIndex)
					}
					written(t, sheet{kind: k, first: first, rows: []row{r}}, api.ErrArg)
				}
			}
		}
	}
	for _, text := range []string{"1 0\n1 0 1", "1 0\n1 1 0", "1 0\n1 0 -1 1 1", "1 0\n0 -1 1", "1 0\n1 -1 1", "1 0\n0 -1 -1 1 1", "1 0\n1 -1 -1 1 1", "1 1\n1 -1 2 7"} {
		refused(t, edges, text, 2, api.ErrIndex)
	}
	for _, text := range []string{"1 3\n1 0 1 1", "1 3\n1 1 0 1", "1 3\n1 1 1 0", "1 3\n1 -1 -1 0", "1 3\n0 -2 0 0", "1 3\n0 0 -2 0", "1 3\n1 -1 -1 -2"} {
		refused(t, near, text, 2, api.ErrIndex)
	}
	written(t, sheet{kind: edges, rows: []row{edge(-1, 0, 0)}}, api.ErrArg)
	written(t, sheet{kind: edges, rows: []row{ray(-1, 0, 1, 1)}}, api.ErrArg)
}

// Numbers may be beyond those that the file itself tells of.
func TestNumbersOfOthers(t *testing.T) {
	both(t, "1 3\n1 2 1000 -1\n", sheet{kind: near, first: 1, rows: []row{three(1, 999, -1)}})
	both(t, "1 0\n0 700 3\n", sheet{kind: edges, rows: []row{edge(700, 3, 0)}})
}

// -0 is written as 0, and read as 0; as a word it is no number.
func TestNoughtBelow(t *testing.T) {
	minus := math.Copysign(0, -1)
	for text, rows := range map[string][2][]row{
		"2 0\n0 0 -1 0 0\n1 0 1\n": {{ray(0, 0, minus, minus), row{[]int{0, 1, 0}, []float64{minus, minus}}}, {ray(0, 0, 0, 0), edge(0, 1, 0)}},
		"2 0\n0 0 -1 0 1\n1 0 1\n": {{ray(0, 0, minus, 1), row{[]int{0, 1, 0}, []float64{0, minus}}}, {ray(0, 0, 0, 1), edge(0, 1, 0)}},
	} {
		if got, err := writeIs(t, sheet{kind: edges, rows: rows[0]}); got != text || err != api.OK {
			t.Errorf("of edges is written: %q, %v, want %q", got, err, text)
		}
		both(t, text, sheet{kind: edges, rows: rows[1]})
	}
	if got, err := writeIs(t, sheet{kind: areas, rows: []row{area(minus)}}); got != "1\n0 0\n" || err != api.OK {
		t.Errorf("of areas is written: %q, %v", got, err)
	}
	readIs(t, "2\n0 0b5\n1 0b-9999\n", sheet{kind: areas, rows: []row{area(0), area(0)}}, 0, api.OK)
	readIs(t, "1 0\n0 0 -1 0b-9999 0b7\n", sheet{kind: edges, rows: []row{ray(0, 0, 0, 0)}}, 0, api.OK)
	for _, line := range []string{"-0 0 1 0", "0 -0 1 0", "0 0 -0 0", "0 0 1 -0", "0 0 -1 -0 1 0", "0 0 -1 1 -0 0", "0 0 -1 1 1 -0", "0 0 -1 -0b1 1 0"} {
		refused(t, edges, "1 1\n"+line, 2, api.ErrForm)
	}
	for _, line := range []string{"-0 0 1 2", "0 -0 1 2", "0 0 -0 1", "0 0 1 -0"} {
		refused(t, near, "1 3\n"+line, 2, api.ErrForm)
	}
	refused(t, areas, "1\n0 -0", 2, api.ErrForm)
}

// Floats with and without a power of two, told in one way and in others.
func TestFloats(t *testing.T) {
	words := map[string]float64{
		"1b1023": 0x1p1023, "-1b-1074": -0x1p-1074, "9007199254740991": 1<<53 - 1, "1b53": 1 << 53, "3b-2": 0.75, "-1b-1": -0.5,
		"9007199254740991b971": math.MaxFloat64, "-3b-1074": -0x3p-1074, "-9007199254740991": 1 - 1<<53, "0": 0, "1b101": 0x1p101, "1b-101": 0x1p-101,
	}
	for word, x := range words {
		both(t, "1\n1 "+word+"\n", sheet{kind: areas, first: 1, rows: []row{area(x)}})
		both(t, "2 0\n0 3 -1 "+word+" 5\n1 3 -1 5 "+word+"\n", sheet{kind: edges, rows: []row{ray(3, 0, x, 5), ray(3, 0, 5, x)}})
		both(t, "1 1\n1 4 -1 "+word+" "+word+" 6\n", sheet{kind: edges, first: 1, marks: true, rows: []row{ray(3, 6, x, x)}})
	}
	for word, x := range map[string]float64{"12b-4": 0.75, "-8b-2": -2, "2b-1075": 0x1p-1074, "9007199254740992": 1 << 53, "1b0": 1} {
		readIs(t, "1\n1 "+word+"\n", sheet{kind: areas, first: 1, rows: []row{area(x)}}, 0, api.OK)
		readIs(t, "1 0\n0 3 -1 "+word+" "+word+"\n", sheet{kind: edges, rows: []row{ray(3, 0, x, x)}}, 0, api.OK)
	}
}

// A thing that is no ray has no Ray.
func TestRayOfNoRay(t *testing.T) {
	for _, x := range []float64{1, -1, 0.5, 0x1p-1074, math.MaxFloat64, math.NaN(), math.Inf(1), math.Inf(-1)} {
		for _, at := range []int{0, 1} {
			for _, marks := range []bool{false, true} {
				good, wrong := edge(0, 1, 0), edge(0, 1, 0)
				wrong.x[at] = x
				written(t, sheet{kind: edges, marks: marks, rows: []row{good, wrong}}, api.ErrArg)
				written(t, sheet{kind: edges, marks: marks, rows: []row{wrong, good}}, api.ErrArg)
				wrong.n[1] = -1
				if finite := math.Abs(x) <= math.MaxFloat64; finite {
					written(t, sheet{kind: edges, marks: marks, rows: []row{good, wrong}}, api.OK)
				} else {
					written(t, sheet{kind: edges, marks: marks, rows: []row{good, wrong}}, api.ErrArg)
				}
			}
		}
	}
}
