package nodefile_test

import (
	"math/rand/v2"
	"slices"
	"strings"
	"testing"

	"trivet/api"
	"trivet/lines"
	"trivet/nodefile"
)

func exampleFile() nodefile.File {
	return nodefile.File{Attrs: 1, Marks: true, Nodes: []api.Node{
		{P: api.Point{X: 0, Y: 0}, Attr: []float64{7}, Mark: 5},
		{P: api.Point{X: 0.5, Y: 1}, Attr: []float64{8}, Mark: 0},
	}}
}

func TestFirstExample(t *testing.T) {
	f := exampleFile()
	for text, zero := range map[string]bool{
		"2 2 1 1\n1 0 0 7 5\n2 1b-1 1 8 0\n": false,
		"2 2 1 1\n0 0 0 7 5\n1 1b-1 1 8 0\n": true,
	} {
		f.Zero = zero
		readIs(t, text, f, 0, api.OK)
		if got, err := nodefile.Write(f); got != text || err != api.OK {
			t.Errorf("Write: %q, %v, want %q", got, err, text)
		}
	}
}

func TestSecondExample(t *testing.T) {
	for _, x := range []struct {
		text string
		at   int
		err  api.Errno
	}{
		{"", 1, api.ErrForm}, {"1 2 0 0", 2, api.ErrForm}, {"1 2 0 0\n2 0 0", 2, api.ErrForm}, {"1 3 0 0", 1, api.ErrForm},
		{"1 2 17 0", 1, api.ErrFull}, {"1 2 0 0\n1 1b150 0", 2, api.ErrRange},
	} {
		readIs(t, x.text, nodefile.File{}, x.at, x.err)
		asked(t, x.text)
	}
	if text, err := nodefile.Write(nodefile.File{Attrs: 1, Nodes: []api.Node{{}}}); text != "" || err != api.ErrArg {
		t.Errorf("Write: %q, %v", text, err)
	}
}

// P10.1: the file is known ahead of the lines that are made of it. Lines behind
// its own are not looked at by Take, and are too many for Read.
func TestDrawnFilesTaken(t *testing.T) {
	r := rand.New(rand.NewPCG(10, 1))
	kinds := map[[3]bool]int{}
	for range 4000 {
		f := drawnFile(r)
		l, err := modelPut(f)
		if err != api.OK {
			t.Fatal("the model's Put:", err)
		}
		text, _ := widened(r, l)
		readIs(t, text, f, 0, api.OK)
		asked(t, text)
		takeIs(t, numbered(r, l), f, len(l), 0, api.OK)
		more := [][][]string{{{"0"}}, {{"4", "1", "2"}}, {{"x"}, {"1", "1"}}, {nil}, l}[r.IntN(5)]
		more = append(l[:len(l):len(l)], more...)
		takeIs(t, numbered(r, more), f, len(l), 0, api.OK)
		if len(more[len(l)]) > 0 {
			text, at := widened(r, more)
			readIs(t, text, nodefile.File{}, at[len(l)], api.ErrForm)
		}
		kinds[[3]bool{f.Attrs > 0, f.Marks, f.Zero}]++
	}
	if len(kinds) != 8 || slices.Min(values(kinds)) < 200 {
		t.Error("of the kinds there are", kinds)
	}
}

func values(m map[[3]bool]int) []int {
	var all []int
	for _, n := range m {
		all = append(all, n)
	}
	return all
}

// spoilt are lines with one thing changed: a word, a word more or less, a line
// more or less, two lines the other way about.
func spoilt(r *rand.Rand, l [][]string) [][]string {
	words := []string{
		"0", "1", "2", "3", "4", "-1", "-0", "00", "+1", "17", "16", "x", "b", "1b", "1b1", "3b-2", "1.5", "1e3", "1b100", "1b101", "-1b100",
		"1b-100", "1b-101", "1b1023", "1b1024", "1b-1074", "1b-1075", "9007199254740993", "1048576", "1048577",
		"9223372036854775807", "9223372036854775808", "-9223372036854775808", "-9223372036854775809", "0b9", "0b-99999", "1b-0",
	}
	l = slices.Clone(l)
	if len(l) == 0 {
		return l
	}
	i := r.IntN(len(l))
	k := 0
	if len(l[i]) > 0 {
		k = r.IntN(len(l[i]))
	}
	word := words[r.IntN(len(words))]
	switch kind := r.IntN(12); {
	case kind == 0 && len(l[i]) > 1:
		l[i] = slices.Delete(slices.Clone(l[i]), k, k+1)
	case kind == 1:
		l[i] = slices.Insert(slices.Clone(l[i]), k, word)
	case kind == 2:
		l = slices.Delete(l, i, i+1)
	case kind == 3:
		l = slices.Insert(l, i, []string{word})
	case kind == 4:
		k := r.IntN(len(l))
		l[i], l[k] = l[k], l[i]
	case kind == 5:
		l = append(l, l[i])
	case len(l[i]) > 0:
		l[i] = slices.Clone(l[i])
		l[i][k] = word
	}
	return l
}

// P10.1, on lines of which some are wrong, with one fault or more.
func TestDrawnFaults(t *testing.T) {
	r := rand.New(rand.NewPCG(10, 2))
	kinds := map[api.Errno]int{}
	for range 40000 {
		l, _ := modelPut(drawnFile(r))
		for range 1 + r.IntN(2)*r.IntN(3) {
			l = spoilt(r, l)
		}
		text := plain(l)
		if r.IntN(2) == 0 {
			text, _ = widened(r, l)
		}
		kinds[asked(t, text)]++
		all := numbered(r, l)
		f, used, at, err := modelTake(all)
		takeIs(t, all, f, used, at, err)
	}
	if kinds[api.OK] < 3000 || kinds[api.ErrForm] < 3000 || kinds[api.ErrRange] < 1000 || kinds[api.ErrFull] < 300 {
		t.Error("of the kinds there are", kinds)
	}
}

// P10.2, with lines and texts put together by the model.
func TestDrawnFilesPut(t *testing.T) {
	r := rand.New(rand.NewPCG(10, 3))
	for range 4000 {
		f := drawnFile(r)
		l, err := putIs(t, f)
		if err != api.OK {
			t.Fatal("Put:", err)
		}
		if text, err := nodefile.Write(f); text != plain(l) || err != api.OK {
			t.Fatalf("Write: %q, %v, want %q", text, err, plain(l))
		}
	}
}

// R3: words, lines and nodes behind the ends of lists are not looked at.
func TestSpareRoom(t *testing.T) {
	words := []string{"1", "2", "0", "0", "9", "x"}
	l := []lines.Line{{No: 4, Words: words[:4]}, {No: 5, Words: words[:3]}, {No: 6, Words: nil}}
	want := nodefile.File{Nodes: []api.Node{{P: api.Point{X: 2, Y: 0}}}}
	takeIs(t, l, want, 2, 0, api.OK)
	takeIs(t, l[:2], want, 2, 0, api.OK)
	takeIs(t, l[:1], nodefile.File{}, 0, 5, api.ErrForm)
	takeIs(t, l[:0], nodefile.File{}, 0, 1, api.ErrForm)
	attrs := []float64{1, 2, 3}
	nodes := []api.Node{{Attr: attrs[:1]}, {Attr: attrs[1:2]}, {Attr: nil, Mark: 7}}
	for count, wantErr := range []api.Errno{api.OK, api.OK, api.OK, api.ErrArg} {
		if _, err := putIs(t, nodefile.File{Attrs: 1, Nodes: nodes[:count]}); err != wantErr {
			t.Errorf("Put of %d nodes: %v", count, err)
		}
	}
}

// R3: what is read, and what is put, lies in memory of its own; what is written
// there is seen in no other list, and in no later answer.
func TestOwnMemory(t *testing.T) {
	f := nodefile.File{Attrs: 3, Marks: true}
	for i := range 40 {
		x := float64(i)
		f.Nodes = append(f.Nodes, api.Node{P: api.Point{X: x, Y: 9 - x}, Attr: []float64{x + 0.5, x, 0}, Mark: i})
	}
	text, _ := nodefile.Write(f)
	read, _, _ := nodefile.Read(text)
	for i := range read.Nodes {
		room := read.Nodes[i].Attr[:cap(read.Nodes[i].Attr)]
		for k := range room {
			room[k] = 99
		}
		if !slices.EqualFunc(read.Nodes[i+1:], f.Nodes[i+1:], sameNode) {
			t.Fatal("two nodes share their memory")
		}
	}
	clear(read.Nodes[:cap(read.Nodes)])
	readIs(t, text, f, 0, api.OK)
	l, _ := nodefile.Put(f)
	want, _ := modelPut(f)
	for i := range l {
		room := l[i][:cap(l[i])]
		for k := range room {
			room[k] = "mine"
		}
		if !sameWords(l[i+1:], want[i+1:]) {
			t.Fatal("two lines share their memory")
		}
	}
	clear(l[:cap(l)])
	putIs(t, f)
}

// R2: the same texts and files, whatever came between, are answered the same.
func TestAskedAgain(t *testing.T) {
	f := exampleFile()
	for _, text := range []string{"2 2 1 1\n1 0 0 7 5\n2 1b-1 1 8 0\n", "1 2 0 0\n0 1 1", "1 2 0 0\n2 1 1", "", "0 2 0 0", "0 2 17 0"} {
		first, at, err := nodefile.Read(text)
		nodefile.Read("1 2 0 0\n0 4 4")
		nodefile.Write(f)
		nodefile.Put(nodefile.File{Attrs: -1})
		readIs(t, text, first, at, err)
		asked(t, text)
	}
	putIs(t, f)
	putIs(t, f)
	readIs(t, strings.Repeat("\n", 3)+"0 2 3 1", nodefile.File{Attrs: 3, Marks: true}, 0, api.OK)
}
