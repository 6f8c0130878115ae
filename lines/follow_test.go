package lines_test

import (
	"math/rand/v2"
	"strings"
	"testing"

	"trivet/api"
	"trivet/lines"
)

// P9.3: what is written is read, with the lines numbered one by one.
func TestWrittenRead(t *testing.T) {
	r := rand.New(rand.NewPCG(9, 5))
	for range 5000 {
		l := drawnList(r)
		text, err := lines.Write(l)
		if err != api.OK {
			t.Fatal("Write:", err)
		}
		var want []lines.Line
		for i, words := range l {
			want = append(want, lines.Line{No: i + 1, Words: words})
		}
		readIs(t, text, want, 0, api.OK)
	}
}

// P9.3: what is read, written, and read again, has the same words; and is
// written the same again.
func TestReadWrittenRead(t *testing.T) {
	r := rand.New(rand.NewPCG(9, 6))
	told := 0
	for range 5000 {
		first, _, err := lines.Read(drawnText(r))
		if err != api.OK {
			t.Fatal("Read:", err)
		}
		text, err := lines.Write(wordsOf(first))
		if err != api.OK {
			t.Fatal("Write:", err)
		}
		again, _, err := lines.Read(text)
		if err != api.OK || !sameWords(wordsOf(first), wordsOf(again)) {
			t.Fatalf("%q has not the words of what it was written from: %v", text, err)
		}
		for i, line := range again {
			if line.No != i+1 {
				t.Fatalf("line %d of %q has the number %d", i+1, text, line.No)
			}
		}
		writeIs(t, wordsOf(again), text, api.OK)
		told += len(again)
	}
	if told < 5000 {
		t.Error("there are but", told, "lines")
	}
}

// Of texts of MaxText bytes those without 0A at their end, and without a blank
// to spare, have no room for the 0A that is written behind the last line.
func TestNoRoomForTheLastEnd(t *testing.T) {
	text := filled(filled("1234567 ", 1023)+"\n", api.MaxText-1)
	for end, want := range map[string]api.Errno{"7": api.ErrFull, "\n": api.OK, " ": api.OK, "#": api.OK, "": api.OK} {
		l, _, err := lines.Read(text + end)
		if err != api.OK {
			t.Fatal("Read:", err)
		}
		if _, err := lines.Write(wordsOf(l)); err != want {
			t.Errorf("a text of %d bytes that ends with %q, written: %v, want %v", len(text+end), end, err, want)
		}
	}
}

// widened is a text with more blanks where there is one, and at both ends of
// what stands ahead of a remark; with remarks that go on, or begin; and with
// lines without words between the others.
func widened(r *rand.Rand, text string) string {
	var all []string
	empty := func() {
		for range r.IntN(3) {
			all = append(all, drawnLine(r, nil))
		}
	}
	for _, line := range strings.Split(text, "\n") {
		empty()
		ahead, remark, found := strings.Cut(line, "#")
		wide := drawnBlanks(r, 0)
		for _, c := range []byte(ahead) {
			wide += string([]byte{c})
			if strings.IndexByte(" \t\r", c) >= 0 {
				wide += drawnBlanks(r, 0)
			}
		}
		wide += drawnBlanks(r, 0)
		if found {
			wide += "#" + remark
		}
		all = append(all, wide+drawnRemark(r))
	}
	empty()
	return strings.Join(all, "\n")
}

// P9.4.
func TestWidened(t *testing.T) {
	r := rand.New(rand.NewPCG(9, 7))
	longer := 0
	for range 5000 {
		text := drawnText(r)
		first, _, err := lines.Read(text)
		if err != api.OK {
			t.Fatal("Read:", err)
		}
		wide := widened(r, text)
		second, _, err := lines.Read(wide)
		if err != api.OK || !sameWords(wordsOf(first), wordsOf(second)) {
			t.Fatalf("%q has not the words of %q: %v", wide, text, err)
		}
		readAsked(t, wide)
		if len(wide) > len(text) {
			longer++
		}
	}
	if longer < 4000 {
		t.Error("but", longer, "texts have become longer")
	}
}

// P9.4, one thing at a time, and with the numbers of the lines.
func TestOneThingMore(t *testing.T) {
	want := list(line(1, "a", "b"), line(2, "c"))
	for _, text := range []string{
		"a b\nc\n", " a b\nc\n", "a  b\nc\n", "a\tb\nc\n", "a \rb\nc\n", "a b\r\nc\r\n", "a b\nc\t\n", "a b\nc\n ",
		"a b#\nc\n", "a b # d\nc\n", "a b\nc#d", "a b\nc\n#d", "a b\nc\n\n\n", "a b\nc\n#\n#d\n \n",
	} {
		readIs(t, text, want, 0, api.OK)
	}
	for _, gap := range []string{"\n", " \n", "\r\n", "\t\t\n", "#\n", "# d\n", " #d\r\n", "#\x01\xff\n"} {
		readIs(t, "a b\n"+gap+"c\n", list(line(1, "a", "b"), line(3, "c")), 0, api.OK)
		readIs(t, gap+"a b\n"+gap+gap+"c\n", list(line(2, "a", "b"), line(5, "c")), 0, api.OK)
	}
}
