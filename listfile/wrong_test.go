package listfile_test

import (
	"math"
	"strings"
	"testing"

	"trivet/api"
)

// fault is a text of a kind, where it is refused, and why.
type fault struct {
	kind kind
	text string
	at   int
	err  api.Errno
}

func allRefused(t *testing.T, faults []fault) {
	t.Helper()
	for _, x := range faults {
		refused(t, x.kind, x.text, x.at, x.err)
	}
}

// No line is told at the line 0.
func TestNoLine(t *testing.T) {
	for _, k := range kinds {
		for _, text := range []string{"", "\n", "\n\n\n", "# 1 0", " \t\r\n# none\n \n"} {
			refused(t, k, text, 0, api.ErrForm)
		}
	}
}

// First lines of another count of words, or with a number that is none or may not
// be, at the text's first line and at a later one.
func TestFirstLine(t *testing.T) {
	second := []string{"x", "-1", "-0", "00", "01", "+1", "1b0", "1.0", "2", "4", "10", "33", "-3", "03", "+3", "3b0", "three", "9223372036854775807", "-9223372036854775808", "9223372036854775808"}
	count := []string{"-1", "-0", "00", "+0", "01", "x", "0b0", "1b0", "1.0", "-9223372036854775808", "9223372036854775808"}
	wrong := map[kind][]string{
		edges: {"0", "1", "x", "0 0 0", "0 1 0", "0 1 x", "1 1 1", "0 3", "1 3", "0 0 1 0"},
		near:  {"0", "3", "x", "0 3 0", "0 3 3", "0 3 x", "1 3 0", "0 0", "0 1", "3 1", "0 3 0 0"},
		areas: {"0 0", "0 1", "1 3", "0 x", "x 0", "0 0 0"},
	}
	for _, word := range count {
		wrong[edges] = append(wrong[edges], word+" 0", word+" 1")
		wrong[near] = append(wrong[near], word+" 3")
		wrong[areas] = append(wrong[areas], word)
	}
	for _, word := range second {
		wrong[edges] = append(wrong[edges], "0 "+word, "1 "+word)
		wrong[near] = append(wrong[near], "0 "+word, "1 "+word)
	}
	for k, heads := range wrong {
		for _, line := range heads {
			refused(t, k, line, 1, api.ErrForm)
			refused(t, k, "\n# head\n"+line+"\n1 1 2 3\n", 3, api.ErrForm)
		}
	}
}

// More than MaxPoints things, which the first line tells.
func TestTooManyTold(t *testing.T) {
	for _, count := range []string{"1048577", "1048578", "9223372036854775807"} {
		for head, k := range map[string]kind{" 0": edges, " 1": edges, " 3": near, "": areas} {
			refused(t, k, count+head, 1, api.ErrFull)
			refused(t, k, "\n# head\n"+count+head+"\n1 1 2 3\n", 3, api.ErrFull)
		}
	}
}

// A line more than there are things, whatever stands there and wherever it is.
func TestLineMore(t *testing.T) {
	for _, line := range []string{"1 1 2", "1 1 2 3", "1 5", "0", "x", "0 0", "0 3", "2 2 -1 1b-1 -1 0", "2 1 1 1"} {
		allRefused(t, []fault{
			{edges, "0 0\n" + line, 2, api.ErrForm}, {edges, "0 1\n\n#\n" + line, 4, api.ErrForm}, {edges, "1 0\n1 1 2\n" + line, 3, api.ErrForm},
			{near, "0 3\n" + line, 2, api.ErrForm}, {near, "1 3\n1 1 1 1\n" + line, 3, api.ErrForm}, {near, "\n1 3\n\n1 1 1 1 # one\n# two\n" + line + "\n3 1 1 1", 6, api.ErrForm},
			{areas, "0\n" + line, 2, api.ErrForm}, {areas, "1\n1 5\n" + line, 3, api.ErrForm}, {areas, "1\n0 5\n\n" + line + "\n2 5\n", 4, api.ErrForm},
		})
	}
	allRefused(t, []fault{{edges, "1 0\n1 1 2\n2 1 2", 3, api.ErrForm}, {near, "1 3\n0 0 0 0\n1 0 0 0", 3, api.ErrForm}, {areas, "1\n1 5\n2 5", 3, api.ErrForm}})
}

// Lines fewer than things are told at the line 0, wherever the text ends.
func TestLinesTooFew(t *testing.T) {
	for k, texts := range map[kind][]string{
		edges: {"1 0", "1 1\n\n", "2 0\n1 1 2", "2 1\n\n0 0 -1 1 1 7\n\n", "1048576 1", "3 0\n1 1 2\n2 1 -1 1 1", "# x\n\n2 0 # two\n0 0 0"},
		near:  {"1 3", "1 3\n\n", "2 3\n1 1 1 1", "2 3\n\n0 0 0 0\n\n", "1048576 3", "3 3\n1 1 1 1\n2 -1 -1 -1"},
		areas: {"1", "1\n\n", "2\n1 5", "2\n\n0 5\n\n", "1048576", "3\n1 5\n2 5b-1"},
	} {
		for _, text := range texts {
			refused(t, k, text, 0, api.ErrForm)
		}
	}
}

// Lines of another count of words; of an edge its third word says how many.
func TestCountOfWords(t *testing.T) {
	for count := 1; count <= 9; count++ {
		ones := "1" + strings.Repeat(" 1", count-1)
		words := strings.Fields(ones)
		if count > 2 {
			words[2] = "-1"
		}
		away := strings.Join(words, " ")
		for _, x := range []struct {
			kind       kind
			head, line string
			right      bool
		}{
			{edges, "1 0", ones, count == 3}, {edges, "1 1", ones, count == 4}, {edges, "1 0", away, count == 5}, {edges, "1 1", away, count == 6},
			{near, "1 3", ones, count == 4}, {near, "1 3", away, count == 4}, {areas, "1", ones, count == 2}, {areas, "1", away, count == 2},
		} {
			if text := x.head + "\n" + x.line; !x.right {
				refused(t, x.kind, text, 2, api.ErrForm)
			} else if err := asked(t, x.kind, text); err != api.OK {
				t.Errorf("%q: %v", text, err)
			}
		}
	}
	// What is no -1 makes no ray.
	for _, word := range []string{"-1b0", "-01", "1", "-2", "-0", "-", "-11", "x"} {
		refused(t, edges, "1 0\n1 1 "+word+" 1 1", 2, api.ErrForm)
		refused(t, edges, "1 1\n1 1 "+word+" 1 1 1", 2, api.ErrForm)
	}
	// Another word that is -1 makes none either.
	refused(t, edges, "1 0\n1 -1 1 1 1", 2, api.ErrForm)
	refused(t, edges, "1 0\n1 1 1 -1 1", 2, api.ErrForm)
}

// Words that are no such numbers, at each place of each line.
func TestWordsOfLines(t *testing.T) {
	for _, x := range []struct {
		kind       kind
		head, line string
		shape      string // n: a whole number, f: a float
	}{
		{edges, "2 0\n1 1 1\n", "2 1 1", "nnn"}, {edges, "2 1\n1 1 1 1\n", "2 1 1 1", "nnnn"},
		{edges, "2 0\n1 1 1\n", "2 1 -1 1 1", "nnnff"}, {edges, "2 1\n1 1 1 1\n", "2 1 -1 1 1 1", "nnnffn"},
		{near, "2 3\n1 1 1 1\n", "2 1 1 1", "nnnn"}, {near, "2 3\n1 1 1 1\n", "2 -1 -1 -1", "nnnn"}, {areas, "2\n1 1\n", "2 1", "nf"},
	} {
		for at, c := range x.shape {
			with := func(word string) string {
				words := strings.Fields(x.line)
				words[at] = word
				return x.head + strings.Join(words, " ")
			}
			for _, word := range []string{"x", "+1", "01", "-0", "1.5", "1e5", "1B1", "b", "b1", "1b", "1b+1", "1b-0", "2b01", "-", "--1", "nan", "inf", "0x1", "9223372036854775808", strings.Repeat("1", 400)} {
				refused(t, x.kind, with(word), 3, api.ErrForm)
			}
			for _, word := range []string{"1b0", "1b1", "3b-2", "0b0", "1b1024", "1b-1075"} {
				if c == 'n' {
					refused(t, x.kind, with(word), 3, api.ErrForm)
				}
			}
			for _, word := range []string{"9007199254740993", "9007199254740993b1", "1b1024", "1b-1075", "9223372036854775807", "1b9223372036854775807", "-1b-9223372036854775808"} {
				if c == 'f' {
					refused(t, x.kind, with(word), 3, api.ErrRange)
				}
			}
		}
	}
}

// Numbers that begin with neither 0 nor 1, or do not follow one another.
func TestOrderOfNumbers(t *testing.T) {
	heads := map[kind]string{edges: "3 0\n", near: "3 3\n", areas: "3\n"}
	rests := map[kind]string{edges: " 1 1", near: " 1 1 1", areas: " 1"}
	for _, x := range []struct {
		numbers string
		at      int
	}{
		{"2 3 4", 2}, {"-1 0 1", 2}, {"3 4 5", 2}, {"-9223372036854775808 0 0", 2}, {"9223372036854775807 0 0", 2}, {"10 11 12", 2},
		{"0 0 1", 3}, {"0 2 3", 3}, {"0 -1 2", 3}, {"1 1 2", 3}, {"1 3 4", 3}, {"1 0 1", 3}, {"1 0 2", 3}, {"1 -9223372036854775808 2", 3},
		{"0 1 1", 4}, {"0 1 3", 4}, {"0 1 0", 4}, {"1 2 2", 4}, {"1 2 4", 4}, {"1 2 1", 4}, {"1 2 0", 4}, {"0 1 9223372036854775807", 4},
	} {
		for _, k := range kinds {
			refused(t, k, heads[k]+strings.Join(strings.Fields(x.numbers), rests[k]+"\n")+rests[k], x.at, api.ErrForm)
		}
	}
}

// Of two faults the one that comes first by the chapter's table.
func TestFirstFault(t *testing.T) {
	allRefused(t, []fault{
		// The form of the first line comes ahead of what it says, and that ahead of all lines.
		{edges, "1048577 2", 1, api.ErrForm}, {edges, "1048577", 1, api.ErrForm}, {edges, "1048577 1 0", 1, api.ErrForm}, {edges, "1048577 x", 1, api.ErrForm}, {edges, "1048577 0\nx", 1, api.ErrFull},
		{near, "1048577 4", 1, api.ErrForm}, {near, "1048577", 1, api.ErrForm}, {near, "1048577 x", 1, api.ErrForm}, {near, "1048577 3\nx", 1, api.ErrFull},
		{areas, "1048577 0", 1, api.ErrForm}, {areas, "1048577 x", 1, api.ErrForm}, {areas, "1048577\nx", 1, api.ErrFull}, {areas, "-1\nx", 1, api.ErrForm},
		{edges, "1 2\n1 0 1", 1, api.ErrForm}, {near, "1 2\n1 0 1 1", 1, api.ErrForm}, {areas, "1 2\n1 1b2000", 1, api.ErrForm},
		// Lines come in their order.
		{edges, "2 0\n1 0 1\nx", 2, api.ErrIndex}, {edges, "2 0\nx\n2 0 1", 2, api.ErrForm}, {edges, "2 0\n1 1 -1 1 1b2000\n2 0 1", 2, api.ErrRange}, {edges, "2 0\n1 1 1\n2 0 1", 3, api.ErrIndex},
		{near, "2 3\n1 0 1 1\nx", 2, api.ErrIndex}, {near, "2 3\nx\n2 0 1 1", 2, api.ErrForm}, {areas, "2\n1 1b2000\nx", 2, api.ErrRange}, {areas, "2\nx\n2 1b2000", 2, api.ErrForm},
		// A line more comes behind those ahead of it, and a line too few behind all.
		{edges, "1 0\n1 0 1\n2 1 1", 2, api.ErrIndex}, {edges, "1 0\n1 1 -1 1b2000 1\nx", 2, api.ErrRange}, {edges, "1 0\n1 1 1\n2 0 1", 3, api.ErrForm}, {edges, "3 0\n1 1 1\n2 0 1", 3, api.ErrIndex}, {edges, "3 0\n1 1 1\n3 1 1", 3, api.ErrForm},
		{near, "1 3\n1 0 1 1\n2 1 1 1", 2, api.ErrIndex}, {near, "1 3\n1 1 1 1\n2 0 1 1", 3, api.ErrForm}, {near, "2 3\n1 0 1 1", 2, api.ErrIndex},
		{areas, "1\n1 1b2000\n2 1", 2, api.ErrRange}, {areas, "1\n1 1\n2 1b2000", 3, api.ErrForm}, {areas, "3\n1 1\n2 1b2000", 3, api.ErrRange},
		// In a line its count of words comes ahead of what they say.
		{edges, "1 0\n1 0 1 1", 2, api.ErrForm}, {edges, "1 1\n1 0 1", 2, api.ErrForm}, {edges, "1 0\n1 0 -1", 2, api.ErrForm}, {edges, "1 0\n1 0 -1 1b2000", 2, api.ErrForm}, {edges, "1 1\n1 0 -1 1b2000 1", 2, api.ErrForm}, {edges, "1 0\n1 0", 2, api.ErrForm},
		{near, "1 3\n1 0 1", 2, api.ErrForm}, {near, "1 3\n1 0 1 1 1", 2, api.ErrForm}, {areas, "1\n1 1b2000 1", 2, api.ErrForm},
		// So do all of its whole numbers, the marker too, and its own number.
		{edges, "1 0\n1 0 x", 2, api.ErrForm}, {edges, "1 1\n1 0 1 x", 2, api.ErrForm}, {edges, "1 1\n1 1 0 x", 2, api.ErrForm}, {edges, "1 1\n1 1 1048577 01", 2, api.ErrForm},
		{edges, "1 1\n1 0 -1 1 1 x", 2, api.ErrForm}, {edges, "1 1\n1 1 -1 1b2000 1 x", 2, api.ErrForm}, {edges, "1 1\n1 1 -1 1 1b2000 1b0", 2, api.ErrForm},
		{edges, "1 0\n2 0 1", 2, api.ErrForm}, {edges, "1 0\n2 1 -1 1b2000 1", 2, api.ErrForm}, {edges, "2 0\n1 1 1\n1 0 1", 3, api.ErrForm},
		{near, "1 3\n1 0 x 1", 2, api.ErrForm}, {near, "1 3\n1 0 1 x", 2, api.ErrForm}, {near, "1 3\n2 0 1 1", 2, api.ErrForm}, {areas, "1\n2 1b2000", 2, api.ErrForm}, {areas, "1\nx 1b2000", 2, api.ErrForm},
		// Then word by word: the point ahead of the floats, and these in their order.
		{edges, "1 0\n1 0 -1 x 1", 2, api.ErrIndex}, {edges, "1 0\n1 0 -1 1b2000 x", 2, api.ErrIndex}, {edges, "1 1\n1 1048577 -1 1 1b2000 3", 2, api.ErrIndex},
		{edges, "1 0\n1 1 -1 x 1b2000", 2, api.ErrForm}, {edges, "1 0\n1 1 -1 1b2000 x", 2, api.ErrRange}, {edges, "1 1\n1 1 -1 1b2000 x 5", 2, api.ErrRange},
	})
}

// What lines.Read refuses comes ahead of all else, with its line.
func TestRefusedByLines(t *testing.T) {
	for k, head := range map[kind]string{edges: "0 0", near: "0 3", areas: "0"} {
		long := head + strings.Repeat(" ", api.MaxLine)
		allRefused(t, []fault{
			{k, "\x01", 1, api.ErrForm}, {k, "x\n" + head + "\n\x7f", 3, api.ErrForm}, {k, "1048577\n\n1\x002", 3, api.ErrForm}, {k, "\n\n\x80", 3, api.ErrForm},
			{k, long, 1, api.ErrFull}, {k, head + "\n" + long, 2, api.ErrFull}, {k, "x\n\n" + long, 3, api.ErrFull},
			{k, head + "\n" + strings.Repeat("1", api.MaxNumber+1), 2, api.ErrForm},
			{k, head + strings.Repeat("\n", api.MaxText), 0, api.ErrFull}, {k, strings.Repeat("x\n", api.MaxText/2) + "\n", 0, api.ErrFull},
		})
		readIs(t, head+strings.Repeat("\n", api.MaxText-len(head)), sheet{kind: k}, 0, api.OK)
		readIs(t, long[:api.MaxLine], sheet{kind: k}, 0, api.OK)
	}
}

// goodSheet is one that may be, of three things.
func goodSheet(k kind) sheet {
	return sheet{kind: k, first: 1, marks: k == edges, rows: map[kind][]row{
		edges: {edge(0, 1, 5), ray(1, -2, 0.5, -1), edge(2, 1, 0)},
		near:  {three(-1, 1, 2), three(0, -1, 2), three(0, 1, -1)},
		areas: {area(1), area(2.5), area(-3)},
	}[k]}
}

// Each fault of a file, at each thing and at each of its places.
func TestWrongFiles(t *testing.T) {
	for _, k := range kinds {
		written(t, goodSheet(k), api.OK)
		for _, first := range []int{-1, 2, 3, math.MinInt64, math.MaxInt64} {
			s := goodSheet(k)
			s.first = first
			written(t, s, api.ErrArg)
		}
		for at := range 3 {
			numbers, floats := len(goodSheet(k).rows[at].n), len(goodSheet(k).rows[at].x)
			for i := range min(numbers, map[kind]int{edges: 2, near: 3}[k]) { // any marker may be
				for _, n := range []int{-2, -3, 1048576, math.MinInt64, math.MaxInt64} {
					s := goodSheet(k)
					s.rows[at].n[i] = n
					written(t, s, api.ErrArg)
				}
			}
			for i := range floats {
				for _, x := range []float64{math.NaN(), math.Inf(1), math.Inf(-1)} {
					s := goodSheet(k)
					s.rows[at].x[i] = x
					written(t, s, api.ErrArg)
				}
			}
		}
	}
}

// A marker without Marks, of an edge and of a ray.
func TestMarkWithoutMarks(t *testing.T) {
	for _, mark := range []int{1, -1, math.MinInt64, math.MaxInt64} {
		for at := range 3 {
			s := goodSheet(edges)
			for i := range s.rows {
				s.rows[i].n[2] = 0
			}
			s.marks = false
			written(t, s, api.OK)
			s.rows[at].n[2] = mark
			written(t, s, api.ErrArg)
			s.marks = true
			written(t, s, api.OK)
		}
	}
}
