package lines_test

import (
	"math/rand/v2"
	"slices"
	"strings"
	"testing"

	"trivet/api"
	"trivet/lines"
)

func TestFirstExample(t *testing.T) {
	readIs(t, "1 2 # three\n\n 4\t5\r\n", []lines.Line{{No: 1, Words: []string{"1", "2"}}, {No: 3, Words: []string{"4", "5"}}}, 0, api.OK)
	readIs(t, "a\n\x01", nil, 2, api.ErrForm)
	readIs(t, "", nil, 0, api.OK)
}

func TestSecondExample(t *testing.T) {
	writeIs(t, [][]string{{"1", "2"}, {"x"}}, "1 2\nx\n", api.OK)
	for _, l := range [][][]string{{{}}, {{""}}, {{"a b"}}, {{"#"}}} {
		writeIs(t, l, "", api.ErrArg)
	}
}

// P9.1: the words are known ahead of the text that is made of them.
func TestDrawnLines(t *testing.T) {
	r := rand.New(rand.NewPCG(9, 1))
	told := 0
	for range 5000 {
		var all []string
		var want []lines.Line
		for no := range r.IntN(10) {
			words := drawnWords(r, 0)
			all = append(all, drawnLine(r, words))
			if len(words) > 0 {
				want = append(want, lines.Line{No: no + 1, Words: words})
			}
		}
		text := strings.Join(all, "\n")
		readIs(t, text, want, 0, api.OK)
		readIs(t, text+"\n", want, 0, api.OK)
		readAsked(t, text)
		told += len(want)
	}
	if told < 5000 {
		t.Error("there are but", told, "lines")
	}
}

// P9.1, on any bytes, of which those that carry a meaning are the most.
func TestDrawnBytes(t *testing.T) {
	r := rand.New(rand.NewPCG(9, 2))
	kinds := map[api.Errno]int{}
	for range 100000 {
		text := make([]byte, r.IntN(24))
		for i := range text {
			text[i] = pick(r, "ab!~ \t\r\n#")[0]
			if r.IntN(40) == 0 {
				text[i] = byte(r.IntN(256))
			}
		}
		_, err := readAsked(t, string(text))
		kinds[err]++
	}
	if kinds[api.OK] < 10000 || kinds[api.ErrForm] < 10000 {
		t.Error("of the kinds there are", kinds)
	}
}

// P9.2, with the text put together byte by byte.
func TestDrawnLists(t *testing.T) {
	r := rand.New(rand.NewPCG(9, 3))
	for range 5000 {
		l := drawnList(r)
		var want []byte
		for _, words := range l {
			for i, word := range words {
				if i > 0 {
					want = append(want, 0x20)
				}
				want = append(want, word...)
			}
			want = append(want, 0x0a)
		}
		writeIs(t, l, string(want), api.OK)
		writeAsked(t, l)
	}
}

// P9.2, on lists with wrong words among the good ones.
func TestDrawnWrongLists(t *testing.T) {
	r := rand.New(rand.NewPCG(9, 4))
	kinds := map[api.Errno]int{}
	for range 20000 {
		l := drawnList(r)
		if len(l) > 0 && r.IntN(2) == 0 {
			words := l[r.IntN(len(l))]
			i := r.IntN(len(words))
			at := r.IntN(len(words[i]) + 1)
			words[i] = words[i][:at] + string([]byte{byte(r.IntN(256))}) + words[i][at:]
		}
		_, err := writeAsked(t, l)
		kinds[err]++
	}
	if kinds[api.OK] < 5000 || kinds[api.ErrArg] < 5000 {
		t.Error("of the kinds there are", kinds)
	}
}

// R3: what stands behind the ends of lists is not looked at.
func TestSpareRoom(t *testing.T) {
	words := []string{"a", "b", "#", ""}
	l := [][]string{words[:2], words[1:2], {}, {""}}
	writeIs(t, l[:2], "a b\nb\n", api.OK)
	writeIs(t, l[:1], "a b\n", api.OK)
	writeIs(t, l[:0], "", api.OK)
	writeIs(t, l[:3], "", api.ErrArg)
}

// R3: what is read lies in memory of its own; what is written there is seen in
// no other list, and in no later answer.
func TestOwnMemory(t *testing.T) {
	text := strings.Repeat("a bc def # rest\n\nx\n", 50)
	first, _, _ := lines.Read(text)
	want, _, _ := modelRead(text)
	for _, line := range first {
		for _, word := range line.Words {
			if within(word, text) {
				t.Fatal("a word shares the text's memory")
			}
		}
	}
	for i := range first {
		room := first[i].Words[:cap(first[i].Words)]
		for k := range room {
			room[k] = "mine"
		}
		if !sameLines(first[i+1:], want[i+1:]) {
			t.Fatal("two lines share their memory")
		}
	}
	clear(first[:cap(first)])
	readIs(t, text, want, 0, api.OK)
	word := strings.Repeat("w", 300)
	if written, _ := lines.Write([][]string{{word}}); within(word, written) || within(written, word) {
		t.Error("a text shares a word's memory")
	}
}

// R2: the same texts and lists, whatever came between, are answered the same.
func TestAskedAgain(t *testing.T) {
	for _, text := range []string{"a b\nc", "a\n\x01", "", strings.Repeat("a", 401), "#\nx"} {
		l, at, err := lines.Read(text)
		lines.Read("other\n\x02")
		lines.Write([][]string{{"other"}, {}})
		readIs(t, text, l, at, err)
		readAsked(t, text)
	}
	l := [][]string{{"a", "b"}, {"c"}}
	kept := slices.Clone(l)
	text, _ := lines.Write(l)
	lines.Read(text)
	writeIs(t, l, text, api.OK)
	if !sameWords(l, kept) {
		t.Error("the list has changed")
	}
}
