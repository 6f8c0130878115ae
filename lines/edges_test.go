package lines_test

import (
	"strings"
	"testing"

	"trivet/api"
	"trivet/lines"
)

// line is a shorter way to tell a line.
func line(no int, words ...string) lines.Line { return lines.Line{No: no, Words: words} }

func list(l ...lines.Line) []lines.Line { return l }

// readings are texts, each with its lines.
func readings(t *testing.T, all map[string][]lines.Line) {
	t.Helper()
	for text, want := range all {
		readIs(t, text, want, 0, api.OK)
		readAsked(t, text)
	}
}

// Texts without 0A at their end, and with several.
func TestLineEnds(t *testing.T) {
	readings(t, map[string][]lines.Line{
		"": nil, "\n": nil, "\n\n\n": nil,
		"a": list(line(1, "a")), "a\n": list(line(1, "a")), "a\n\n\n": list(line(1, "a")),
		"\na": list(line(2, "a")), "\n\n\na\n": list(line(4, "a")),
		"a\nb": list(line(1, "a"), line(2, "b")), "a\nb\n": list(line(1, "a"), line(2, "b")),
		"a\n\nb\n\n\nc": list(line(1, "a"), line(3, "b"), line(6, "c")),
	})
}

// 20, 09 and 0D alone and together; 0D ahead of 0A and elsewhere.
func TestBlanks(t *testing.T) {
	ab := list(line(1, "a", "b"))
	readings(t, map[string][]lines.Line{
		" ": nil, "\t": nil, "\r": nil, "\r\n": nil, " \t\r": nil, "\r\r\n \n\t\n": nil,
		"a b": ab, "a\tb": ab, "a\rb": ab, "a \t\rb": ab, "a\r\t b": ab, "a   b": ab, "a\r\rb": ab,
		" a b": ab, "\ta b": ab, "\ra b": ab, "a b ": ab, "a b\t": ab, "a b\r": ab, "a b\r\n": ab, "a b \r \n": ab, "a b\r\r\n": ab,
		"\r\na\r\n\rb\r": list(line(2, "a"), line(3, "b")),
		"a\n\rb":         list(line(1, "a"), line(2, "b")),
	})
}

// A # as a line's first byte, and right behind a word; more than one.
func TestRemarks(t *testing.T) {
	readings(t, map[string][]lines.Line{
		"#": nil, "##": nil, "#a": nil, "# a b": nil, "#\n#\n#": nil, " #": nil, "\t#a": nil, "\r#a\r\n": nil,
		"a#": list(line(1, "a")), "a#b": list(line(1, "a")), "a #b": list(line(1, "a")), "a# b": list(line(1, "a")),
		"a b#c d": list(line(1, "a", "b")), "a#b#c d": list(line(1, "a")), "a##b": list(line(1, "a")),
		"#a\nb": list(line(2, "b")), "a#b\nc#d\n#e\nf": list(line(1, "a"), line(2, "c"), line(4, "f")),
		"a#\n#\nb": list(line(1, "a"), line(3, "b")),
	})
}

// Each byte in a remark: right behind the #, later, and as the text's last one.
func TestBytesOfRemarks(t *testing.T) {
	for c := range 256 {
		one := string([]byte{byte(c)})
		if one == "\n" {
			continue
		}
		for _, remark := range []string{"#" + one, "# x" + one + " y", "#" + one + one + "#"} {
			readings(t, map[string][]lines.Line{
				remark: nil, "a" + remark: list(line(1, "a")), "a b " + remark + "\nc": list(line(1, "a", "b"), line(2, "c")),
			})
		}
	}
	readings(t, map[string][]lines.Line{"a #x\ny": list(line(1, "a"), line(2, "y"))})
}

// Each byte alone, between two others, and as the last one, by the kind that
// the document gives it.
func TestEachByteRead(t *testing.T) {
	for c := range 256 {
		one := string([]byte{byte(c)})
		switch {
		case c == 0x0a:
			readings(t, map[string][]lines.Line{one: nil, "a" + one + "b": list(line(1, "a"), line(2, "b"))})
		case c == 0x20 || c == 0x09 || c == 0x0d:
			readings(t, map[string][]lines.Line{one: nil, "a" + one + "b": list(line(1, "a", "b")), "a" + one: list(line(1, "a"))})
		case c == 0x23:
			readings(t, map[string][]lines.Line{one: nil, "a" + one + "b": list(line(1, "a")), "a" + one: list(line(1, "a"))})
		case c >= 0x21 && c <= 0x7e:
			readings(t, map[string][]lines.Line{
				one: list(line(1, one)), "a" + one + "b": list(line(1, "a"+one+"b")), "a " + one: list(line(1, "a", one)),
			})
		default:
			for _, ahead := range []string{"", "a", "a ", " "} {
				readIs(t, ahead+one, nil, 1, api.ErrForm)
				readIs(t, "\nx\n"+ahead+one+"b\ny", nil, 3, api.ErrForm)
				readIs(t, "\nx\n"+ahead+one+"#b\ny", nil, 3, api.ErrForm)
			}
		}
	}
}

// Each byte in a word that is written: alone, as its first one, inside, last.
func TestEachByteWritten(t *testing.T) {
	for c := range 256 {
		one := string([]byte{byte(c)})
		good := c >= 0x21 && c <= 0x7e && c != 0x23
		for _, word := range []string{one, one + "a", "a" + one + "b", "a" + one} {
			if good {
				writeIs(t, [][]string{{"x", word}, {"y"}}, "x "+word+"\ny\n", api.OK)
			} else {
				writeIs(t, [][]string{{"x", word}, {"y"}}, "", api.ErrArg)
			}
		}
	}
}

// Words of MaxNumber bytes, and of one more, wherever they end.
func TestLongWords(t *testing.T) {
	most := strings.Repeat("7", api.MaxNumber)
	for _, tail := range []string{"", " ", "\t", "\r", "\n", "\r\n", "#", "#more", " x", "\nx"} {
		for _, head := range []string{"", " ", "\n", "a ", "#a\n", "a\r\n"} {
			readAsked(t, head+most+tail)
			no := 1 + strings.Count(head, "\n")
			readIs(t, head+most+"7"+tail, nil, no, api.ErrForm)
		}
		if l, at, err := lines.Read(most + tail); err != api.OK || at != 0 || l[0].Words[0] != most {
			t.Errorf("a word of MaxNumber bytes ahead of %q: %d, %v", tail, at, err)
		}
	}
	readings(t, map[string][]lines.Line{
		"a#" + most + most: list(line(1, "a")), "a# " + most + "7": list(line(1, "a")),
		most + " " + most:  list(line(1, most, most)),
		most + "#" + most:  list(line(1, most)),
		most + "\n" + most: list(line(1, most), line(2, most)),
	})
	writeIs(t, [][]string{{most}}, most+"\n", api.OK)
	writeIs(t, [][]string{{"a", most, most}, {most}}, "a "+most+" "+most+"\n"+most+"\n", api.OK)
	for _, l := range [][][]string{{{most + "7"}}, {{"a"}, {"b", most + "7"}}, {{most + "7", "a"}}, {{most + most}}} {
		writeIs(t, l, "", api.ErrArg)
	}
}

// Bytes at the ends of those that words are made of.
func TestEndsOfBytes(t *testing.T) {
	readIs(t, "\x20\x21\x7e", list(line(1, "!~")), 0, api.OK)
	readIs(t, "\x21\x20\x7e", list(line(1, "!", "~")), 0, api.OK)
	readIs(t, "\x21\x7f", nil, 1, api.ErrForm)
	readIs(t, "\x21\n\x1f", nil, 2, api.ErrForm)
	writeIs(t, [][]string{{"\x21\x7e"}}, "\x21\x7e\n", api.OK)
	for _, word := range []string{"\x20", "\x7f", "\x21\x20", "\x7e\x7f", "\x1f"} {
		writeIs(t, [][]string{{word}}, "", api.ErrArg)
	}
}

// A list without lines.
func TestNoLines(t *testing.T) {
	writeIs(t, nil, "", api.OK)
	writeIs(t, [][]string{}, "", api.OK)
	if l, at, err := lines.Read(""); len(l) != 0 || at != 0 || err != api.OK {
		t.Error("Read of nothing:", l, at, err)
	}
}
