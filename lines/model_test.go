package lines_test

import (
	"math/rand/v2"
	"regexp"
	"slices"
	"strings"
	"testing"
	"unsafe"

	"trivet/api"
	"trivet/lines"
)

var (
	lineForm = regexp.MustCompile(`\A[\t\r !"$-~]*(#(?s:.*))?\z`)
	wordForm = regexp.MustCompile(`\A[!"$-~]{1,400}\z`)
)

// modelRead asks an expression about each line whole, and lets the library cut
// what stands ahead of the remark.
func modelRead(text string) ([]lines.Line, int, api.Errno) {
	if len(text) > 16777216 {
		return nil, 0, api.ErrFull
	}
	var read []lines.Line
	for i, line := range strings.Split(text, "\n") {
		ahead := strings.SplitN(line, "#", 2)[0]
		words := strings.FieldsFunc(ahead, func(r rune) bool { return strings.ContainsRune("\r \t", r) })
		long := slices.ContainsFunc(words, func(word string) bool { return len(word) > 400 })
		switch {
		case len(line) > 65536:
			return nil, i + 1, api.ErrFull
		case long || !lineForm.MatchString(line):
			return nil, i + 1, api.ErrForm
		case len(words) > 0:
			read = append(read, lines.Line{No: i + 1, Words: words})
		}
	}
	return read, 0, api.OK
}

// modelWrite writes all of it, and looks how long it has become.
func modelWrite(l [][]string) (string, api.Errno) {
	for _, words := range l {
		for _, word := range words {
			if !wordForm.MatchString(word) {
				return "", api.ErrArg
			}
		}
		if len(words) == 0 {
			return "", api.ErrArg
		}
	}
	text := ""
	for _, words := range l {
		line := strings.Join(words, " ")
		if text += line + "\n"; len(line) > 65536 || len(text) > 16777216 {
			return "", api.ErrFull
		}
	}
	return text, api.OK
}

func sameLines(a, b []lines.Line) bool {
	return slices.EqualFunc(a, b, func(x, y lines.Line) bool { return x.No == y.No && slices.Equal(x.Words, y.Words) })
}

// short is a text of which no more is told than a line of a report can hold.
func short(s string) string { return s[:min(len(s), 300)] }

// readIs holds what is read against what is wanted.
func readIs(t *testing.T, text string, want []lines.Line, wantAt int, wantErr api.Errno) {
	t.Helper()
	got, at, err := lines.Read(text)
	if !sameLines(got, want) || at != wantAt || err != wantErr {
		t.Fatalf("Read of %d bytes, %q: %d lines, %d, %v, want %d lines, %d, %v",
			len(text), short(text), len(got), at, err, len(want), wantAt, wantErr)
	}
}

// readAsked holds a text against the model, and tells how it is read.
func readAsked(t *testing.T, text string) ([]lines.Line, api.Errno) {
	t.Helper()
	want, at, err := modelRead(text)
	readIs(t, text, want, at, err)
	return want, err
}

// writeIs holds what is written against what is wanted, and looks whether the
// lists, with the room behind their ends, are left as they were (R3).
func writeIs(t *testing.T, l [][]string, want string, wantErr api.Errno) {
	t.Helper()
	ahead := slices.Clone(l[:cap(l)])
	for i, words := range ahead {
		ahead[i] = slices.Clone(words[:cap(words)])
	}
	if text, err := lines.Write(l); text != want || err != wantErr {
		t.Fatalf("Write of %d lines: %d bytes, %q, %v, want %d bytes, %q, %v",
			len(l), len(text), short(text), err, len(want), short(want), wantErr)
	}
	for i, words := range l[:cap(l)] {
		if !slices.Equal(ahead[i], words[:cap(words)]) {
			t.Fatalf("line %d of what is written has changed", i)
		}
	}
}

// writeAsked holds lines against the model, and tells how they are written.
func writeAsked(t *testing.T, l [][]string) (string, api.Errno) {
	t.Helper()
	want, err := modelWrite(l)
	writeIs(t, l, want, err)
	return want, err
}

// wordsOf are the words of what was read, without the numbers of the lines.
func wordsOf(l []lines.Line) [][]string {
	var words [][]string
	for _, line := range l {
		words = append(words, line.Words)
	}
	return words
}

func sameWords(a, b [][]string) bool { return slices.EqualFunc(a, b, slices.Equal) }

// within says whether a word lies in a text's own memory.
func within(word, text string) bool {
	first := uintptr(unsafe.Pointer(unsafe.StringData(text)))
	at := uintptr(unsafe.Pointer(unsafe.StringData(word)))
	return at >= first && at < first+uintptr(len(text))
}

func pick(r *rand.Rand, from string) string {
	i := r.IntN(len(from))
	return from[i : i+1]
}

// seen are all bytes that a word can have.
func seen() string {
	var b strings.Builder
	for c := byte(0x21); c <= 0x7e; c++ {
		if c != 0x23 {
			b.WriteByte(c)
		}
	}
	return b.String()
}

func drawnWord(r *rand.Rand) string {
	size := 1 + r.IntN(6)
	if r.IntN(100) == 0 {
		size = 395 + r.IntN(6)
	}
	from := seen()
	var word strings.Builder
	for range size {
		word.WriteString(pick(r, from))
	}
	return word.String()
}

// drawnBlanks are at least as many as that.
func drawnBlanks(r *rand.Rand, least int) string {
	var blanks strings.Builder
	for range least + r.IntN(3) {
		blanks.WriteString(pick(r, " \t\r"))
	}
	return blanks.String()
}

// drawnRemark has any bytes but 0A; some lines have none.
func drawnRemark(r *rand.Rand) string {
	if r.IntN(3) > 0 {
		return ""
	}
	remark := []byte("#")
	for range r.IntN(12) {
		if c := byte(r.IntN(256)); c != 0x0a {
			remark = append(remark, c)
		}
	}
	return string(remark)
}

// drawnLine has its words where they are told, with drawn blanks around them.
func drawnLine(r *rand.Rand, words []string) string {
	line := drawnBlanks(r, 0)
	for i, word := range words {
		if i > 0 {
			line += drawnBlanks(r, 1)
		}
		line += word
	}
	return line + drawnBlanks(r, 0) + drawnRemark(r)
}

func drawnWords(r *rand.Rand, least int) []string {
	var words []string
	for range least + r.IntN(5) {
		words = append(words, drawnWord(r))
	}
	return words
}

// drawnList are lines of which each has words.
func drawnList(r *rand.Rand) [][]string {
	var l [][]string
	for range r.IntN(8) {
		l = append(l, drawnWords(r, 1))
	}
	return l
}

// drawnText is one that may be; with an 0A at its end, or several, or none.
func drawnText(r *rand.Rand) string {
	var all []string
	for range r.IntN(8) {
		all = append(all, drawnLine(r, drawnWords(r, 0)))
	}
	return strings.Join(all, "\n") + strings.Repeat("\n", r.IntN(3))
}
