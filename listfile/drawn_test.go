package listfile_test

import (
	"math"
	"math/rand/v2"
	"slices"
	"strings"
)

// drawnFloat is any finite one but -0.
func drawnFloat(r *rand.Rand) float64 {
	x := math.Float64frombits(r.Uint64())
	switch kind := r.IntN(5); {
	case kind == 0 || math.IsNaN(x) || math.IsInf(x, 0):
		return float64(r.IntN(9) - 4)
	case kind == 1:
		return float64(r.Int64N(1<<54) - 1<<53)
	case kind == 2:
		return math.Ldexp(float64(r.IntN(1<<20)), r.IntN(200)-100)
	}
	return x + 0
}

// drawnNumber is one that may be, often one at the ends of those.
func drawnNumber(r *rand.Rand) int {
	switch r.IntN(4) {
	case 0:
		return r.IntN(1 << 20)
	case 1:
		return []int{0, 1, 1<<20 - 2, 1<<20 - 1}[r.IntN(4)]
	}
	return r.IntN(12)
}

func drawnMark(r *rand.Rand) int {
	switch r.IntN(4) {
	case 0:
		return int(r.Uint64())
	case 1:
		return []int{math.MinInt64, math.MaxInt64, 0, -1}[r.IntN(4)]
	}
	return r.IntN(9) - 4
}

func drawnRow(r *rand.Rand, k kind, marks bool) row {
	mark := 0
	if marks {
		mark = drawnMark(r)
	}
	noneOr := func() int {
		if r.IntN(3) == 0 {
			return -1
		}
		return drawnNumber(r)
	}
	switch {
	case k == near:
		return three(noneOr(), noneOr(), noneOr())
	case k == areas:
		return area(drawnFloat(r))
	case r.IntN(3) == 0:
		return ray(drawnNumber(r), mark, drawnFloat(r), drawnFloat(r))
	}
	return edge(drawnNumber(r), drawnNumber(r), mark)
}

// drawnSheet is one that may be, with no -0 in it; without things its first is 0.
func drawnSheet(r *rand.Rand, k kind) sheet {
	s := sheet{kind: k, marks: k == edges && r.IntN(2) == 0}
	for range r.IntN(6) {
		s.rows = append(s.rows, drawnRow(r, k, s.marks))
	}
	if len(s.rows) > 0 {
		s.first = r.IntN(2)
	}
	return s
}

func drawnBlanks(r *rand.Rand, least int) string {
	blanks := ""
	for range least + r.IntN(3) {
		blanks += []string{" ", "\t", "\r"}[r.IntN(3)]
	}
	return blanks
}

// drawnRemark has any bytes but 0A; most lines have none.
func drawnRemark(r *rand.Rand) string {
	if r.IntN(3) > 0 {
		return ""
	}
	remark := []byte("#")
	for range r.IntN(12) {
		if c := byte(r.IntN(256)); c != 0x0a {
			remark = append(remark, c)
		}
	}
	return string(remark)
}

// widened are lines as a text, with drawn blanks, remarks and lines without words
// between, and the number of each in the text.
func widened(r *rand.Rand, l [][]string) (string, []int) {
	var all []string
	var at []int
	empty := func() {
		for range r.IntN(3) {
			all = append(all, drawnBlanks(r, 0)+drawnRemark(r))
		}
	}
	for _, words := range l {
		empty()
		line := drawnBlanks(r, 0)
		for i, word := range words {
			if i > 0 {
				line += drawnBlanks(r, 1)
			}
			line += word
		}
		all = append(all, line+drawnBlanks(r, 0)+drawnRemark(r))
		at = append(at, len(all))
	}
	empty()
	return strings.Join(all, "\n") + strings.Repeat("\n", r.IntN(3)), at
}

// plain are lines as a text with nothing between.
func plain(l [][]string) string {
	text := ""
	for _, words := range l {
		text += strings.Join(words, " ") + "\n"
	}
	return text
}

// oddWord is one that is wrong in some places, or in all.
func oddWord(r *rand.Rand) string {
	return []string{
		"0", "1", "2", "3", "4", "-1", "-2", "1048575", "1048576", "1048577", "x", "-0", "01", "+1", "-1b0", "1.5", "3b-2", "1b53", "1b1024", "1b-1075",
		"9007199254740993", "9223372036854775807", "9223372036854775808", "-9223372036854775808", "1b", "b1", "-",
	}[r.IntN(27)]
}

// spoilt are lines with one thing changed: a word, a word more or less, a line
// more or less, two lines the other way about.
func spoilt(r *rand.Rand, l [][]string) [][]string {
	if len(l) == 0 {
		return l
	}
	i := r.IntN(len(l))
	k, word := r.IntN(max(len(l[i]), 1)), oddWord(r)
	switch kind := r.IntN(14); {
	case kind == 0 && len(l[i]) > 1:
		l[i] = slices.Delete(slices.Clone(l[i]), k, k+1)
	case kind == 1:
		l[i] = slices.Insert(slices.Clone(l[i]), k, word)
	case kind == 2:
		l = slices.Delete(l, i, i+1)
	case kind == 3:
		l = slices.Insert(l, i, []string{word})
	case kind == 4:
		k := r.IntN(len(l))
		l[i], l[k] = l[k], l[i]
	case kind == 5:
		l = append(l, l[i])
	default:
		l[i] = slices.Clone(l[i])
		l[i][k] = word
	}
	return l
}

// spoil changes one thing of a sheet, most often so that it may not be.
func spoil(r *rand.Rand, s *sheet) {
	drawn := math.Float64frombits(r.Uint64())
	odd := []float64{math.NaN(), math.Inf(1), math.Inf(-1), math.Copysign(0, -1), drawn}[r.IntN(5)]
	number := []int{-2, -1, 0, 1<<20 - 1, 1 << 20, int(r.Uint64())}[r.IntN(6)]
	kind := r.IntN(8)
	if kind == 0 {
		s.first = r.IntN(4) - 1
	}
	if kind == 1 {
		s.marks = s.kind == edges && !s.marks
	}
	if kind < 2 || len(s.rows) == 0 {
		return
	}
	one := s.rows[r.IntN(len(s.rows))]
	if len(one.n) > 0 && (kind < 5 || len(one.x) == 0) {
		one.n[r.IntN(len(one.n))] = number
	} else {
		one.x[r.IntN(len(one.x))] = odd
	}
}
