package lines_test

import (
	"strings"
	"testing"

	"trivet/api"
	"trivet/lines"
)

// filled is a text of that many bytes, of one piece again and again.
func filled(piece string, size int) string {
	return strings.Repeat(piece, size/len(piece)+1)[:size]
}

// Lines of MaxLine bytes, and of one more: of words, of blanks, of a remark,
// and with an 0D at their end, which is one of their bytes.
func TestLongLines(t *testing.T) {
	fills := map[string]func(size int) string{
		"words":   func(size int) string { return filled("1234567 ", size) },
		"blanks":  func(size int) string { return filled(" \t\r", size) },
		"remark":  func(size int) string { return "a #" + filled("r\xff\x00 ", size-3) },
		"no word": func(size int) string { return filled("#", size) },
		"behind":  func(size int) string { return filled("1 ", size-10) + "#234567890" },
		"0D":      func(size int) string { return filled("12 ", size-1) + "\r" },
	}
	for name, fill := range fills {
		good, wrong := fill(api.MaxLine), fill(api.MaxLine+1)
		if len(good) != 65536 || len(wrong) != 65537 {
			t.Fatal("of", name, "there are", len(good), len(wrong))
		}
		for _, tail := range []string{"", "\n", "\nx\n"} {
			for _, head := range []string{"", "\n", "x\n\n", "#y\n\n\n"} {
				if _, err := readAsked(t, head+good+tail); err != api.OK {
					t.Errorf("a line of MaxLine bytes, %s: %v", name, err)
				}
				readIs(t, head+wrong+tail, nil, 1+strings.Count(head, "\n"), api.ErrFull)
			}
		}
		readAsked(t, good+"\n"+good)
		readIs(t, good+"\n"+wrong, nil, 2, api.ErrFull)
		readIs(t, good+"\n"+good+"\r", nil, 2, api.ErrFull)
	}
}

// Of two faults the one that comes first by the chapter's table.
func TestFirstFaultRead(t *testing.T) {
	long := filled("a ", api.MaxLine+1)
	word := filled("a", api.MaxNumber+1)
	for _, x := range []struct {
		text string
		at   int
		err  api.Errno
	}{
		{"\x01" + long, 1, api.ErrFull}, {long + "\x01", 1, api.ErrFull}, {word + " " + long, 1, api.ErrFull},
		{"\x01\n" + long, 1, api.ErrForm}, {word + "\n" + long, 1, api.ErrForm}, {"a\n\x7f\n" + long, 2, api.ErrForm},
		{long + "\n\x01", 1, api.ErrFull}, {"a\n" + long + "\n" + word, 2, api.ErrFull},
		{"a\n\nb\x01\n\x02", 3, api.ErrForm}, {"\n\n" + long + "\n" + long, 3, api.ErrFull},
		{"#\x01\n" + word + "\n\x01", 2, api.ErrForm}, {filled("a", api.MaxLine+1), 1, api.ErrFull},
		{"#" + filled("\x01", api.MaxLine), 1, api.ErrFull}, {filled("\x01", api.MaxLine), 1, api.ErrForm},
	} {
		readIs(t, x.text, nil, x.at, x.err)
		readAsked(t, x.text)
	}
}

// Texts of MaxText bytes, and of one more, whatever is wrong with that one.
func TestLongTexts(t *testing.T) {
	for _, x := range []struct {
		piece string
		words []string
	}{
		{"#" + filled("r", 1022) + "\n", nil},
		{" \t\r\n", nil},
		{filled("1234567 ", 1023) + "\n", strings.Fields(filled("1234567 ", 1023))},
		{filled("1234567 ", api.MaxLine-1) + "\n", strings.Fields(filled("1234567 ", api.MaxLine-1))},
	} {
		text := filled(x.piece, api.MaxText)
		var want []lines.Line
		for i := range api.MaxText / len(x.piece) {
			if len(x.words) > 0 {
				want = append(want, line(i+1, x.words...))
			}
		}
		readIs(t, text, want, 0, api.OK)
		readIs(t, text+" ", nil, 0, api.ErrFull)
		readIs(t, text+"\x01", nil, 0, api.ErrFull)
		readIs(t, "\x01"+text, nil, 0, api.ErrFull)
	}
	readIs(t, filled("a", api.MaxText+1), nil, 0, api.ErrFull)
	readIs(t, filled("\x01\n", api.MaxText+1), nil, 0, api.ErrFull)
	readIs(t, filled("\x01", api.MaxText), nil, 1, api.ErrFull)
	empty := filled("\n", api.MaxText)
	readIs(t, empty, nil, 0, api.OK)
	readIs(t, empty+"\n", nil, 0, api.ErrFull)
	readIs(t, empty[1:]+"a", list(line(api.MaxText, "a")), 0, api.OK)
	readIs(t, empty[1:]+"\x01", nil, api.MaxText, api.ErrForm)
}

// wordsOfSize are words of that many bytes in all, each blank between two of
// them counted.
func wordsOfSize(size int) []string {
	var words []string
	for size > api.MaxNumber {
		words = append(words, filled("0123456789", 100))
		size -= 101
	}
	return append(words, filled("x", size))
}

// Lines that are written with MaxLine bytes, and with one more; the 0A behind
// them is none of them.
func TestLongLinesWritten(t *testing.T) {
	most, over := wordsOfSize(api.MaxLine), wordsOfSize(api.MaxLine+1)
	for _, l := range [][][]string{{most}, {{"a"}, most}, {most, {"a"}}, {most, most}} {
		text, err := writeAsked(t, l)
		if err != api.OK {
			t.Error("a line of MaxLine bytes:", err)
		}
		read, err := readAsked(t, text)
		if err != api.OK || !sameWords(wordsOf(read), l) {
			t.Error("a line of MaxLine bytes is not read as it was:", err)
		}
	}
	for _, l := range [][][]string{{over}, {{"a"}, over}, {over, {"a"}}, {most, over}, {append(most[:len(most):len(most)], "a")}} {
		writeIs(t, l, "", api.ErrFull)
		writeAsked(t, l)
	}
	single := strings.Split(strings.Repeat("a", api.MaxLine/2), "")
	writeIs(t, [][]string{single}, strings.Repeat("a ", api.MaxLine/2-1)+"a\n", api.OK)
	writeIs(t, [][]string{append(single[1:], "ab")}, strings.Repeat("a ", api.MaxLine/2-1)+"ab\n", api.OK)
	writeIs(t, [][]string{append(single, "a")}, "", api.ErrFull)
}

// Texts that are written with MaxText bytes, and with one more; each 0A is one.
func TestLongTextsWritten(t *testing.T) {
	for _, size := range []int{100, 1023, api.MaxLine - 1, api.MaxLine} {
		words := wordsOfSize(size)
		var l [][]string
		for range api.MaxText/(size+1) - 1 {
			l = append(l, words)
		}
		left := api.MaxText - len(l)*(size+1)
		for left > 800 {
			l = append(l, wordsOfSize(300))
			left -= 301
		}
		l = append(l, wordsOfSize(left-1))
		text, err := lines.Write(l)
		if len(text) != api.MaxText || err != api.OK {
			t.Fatalf("lines of %d: a text of %d bytes, %v", size, len(text), err)
		}
		if read, at, err := lines.Read(text); at != 0 || err != api.OK || !sameWords(wordsOf(read), l) {
			t.Fatalf("lines of %d are not read as they were: %d, %v", size, at, err)
		}
		writeIs(t, append(l[:len(l)-1:len(l)-1], wordsOfSize(left)), "", api.ErrFull)
		writeIs(t, append(l[:len(l):len(l)], []string{"a"}), "", api.ErrFull)
	}
}

// As many of the shortest lines as there can be, and one more.
func TestShortestLinesWritten(t *testing.T) {
	l := make([][]string, api.MaxText/2+1)
	one := []string{"a"}
	for i := range l {
		l[i] = one
	}
	if text, err := lines.Write(l[1:]); text != filled("a\n", api.MaxText) || err != api.OK {
		t.Errorf("%d lines of one byte: %d bytes, %v", len(l)-1, len(text), err)
	}
	if text, err := lines.Write(l); text != "" || err != api.ErrFull {
		t.Errorf("%d lines of one byte: %d bytes, %v", len(l), len(text), err)
	}
}

// A wrong word behind, or ahead of, what is too long: ErrArg ahead of ErrFull.
func TestFirstFaultWritten(t *testing.T) {
	over := wordsOfSize(api.MaxLine + 1)
	many := make([][]string, api.MaxText/(api.MaxLine+1)+1)
	for i := range many {
		many[i] = wordsOfSize(api.MaxLine)
	}
	writeIs(t, many, "", api.ErrFull)
	for _, wrong := range [][]string{{}, nil, {""}, {"a", ""}, {"a b"}, {"#"}, {"a#"}, {"\x7f"}, {"a", "b\n"}, {filled("a", api.MaxNumber+1)}} {
		writeIs(t, [][]string{wrong}, "", api.ErrArg)
		writeIs(t, [][]string{{"a"}, wrong}, "", api.ErrArg)
		writeIs(t, [][]string{wrong, {"a"}}, "", api.ErrArg)
		writeIs(t, [][]string{over, wrong}, "", api.ErrArg)
		writeIs(t, [][]string{wrong, over}, "", api.ErrArg)
		writeIs(t, append(many[:len(many):len(many)], wrong), "", api.ErrArg)
		if len(wrong) > 0 {
			writeIs(t, [][]string{append(over[:len(over):len(over)], wrong...)}, "", api.ErrArg)
		}
	}
}

// A list that stands for far more than it has: nothing of it is put together.
func TestManyTimesOneLine(t *testing.T) {
	words := wordsOfSize(1000)
	l := make([][]string, 1<<20)
	for i := range l {
		l[i] = words
	}
	if text, err := lines.Write(l); text != "" || err != api.ErrFull {
		t.Errorf("%d lines of 1000 bytes: %d bytes, %v", len(l), len(text), err)
	}
}
