package polyfile_test

import (
	"math/rand/v2"
	"slices"
	"strings"
	"testing"

	"trivet/api"
	"trivet/nodefile"
	"trivet/polyfile"
)

const three = "3 2 0 0\n1 0 0\n2 1 0\n3 0 1\n"

func point(x, y float64) api.Point { return api.Point{X: x, Y: y} }

func threeNodes() nodefile.File {
	return nodefile.File{Nodes: []api.Node{{P: point(0, 0)}, {P: point(1, 0)}, {P: point(0, 1)}}}
}

func exampleFile() polyfile.File {
	return polyfile.File{Nodes: threeNodes(), Segs: []api.Seg{{A: 0, B: 2, Mark: 5}}, Marks: true}
}

func TestFirstExample(t *testing.T) {
	f := exampleFile()
	const text = three + "1 1\n1 1 3 5\n0\n"
	readIs(t, text, nodefile.File{}, f, 0, api.OK)
	readIs(t, text, nodefile.File{Nodes: []api.Node{{P: point(7, 7)}}}, f, 0, api.OK)
	if got, err := polyfile.Write(f); got != text || err != api.OK {
		t.Errorf("Write: %q, %v, want %q", got, err, text)
	}
	f.Elsewhere = true
	const short = "0 2 0 0\n1 1\n1 1 3 5\n0\n"
	readIs(t, short, threeNodes(), f, 0, api.OK)
	if got, err := polyfile.Write(f); got != short || err != api.OK {
		t.Errorf("Write: %q, %v, want %q", got, err, short)
	}
}

func TestSecondExample(t *testing.T) {
	for _, x := range []struct {
		text string
		at   int
		err  api.Errno
	}{
		{"1 1\n1 1 4 5\n0\n", 6, api.ErrIndex}, {"1 1\n1 1 3 5\n", 7, api.ErrForm}, {"1 1\n1 1 3 5\n0\n1 1b-3 1b-3\n", 8, api.ErrForm},
	} {
		readIs(t, three+x.text, nodefile.File{}, polyfile.File{}, x.at, x.err)
		asked(t, three+x.text, nodefile.File{})
	}
	f := exampleFile()
	f.Regions = []api.Region{{P: point(0.125, 0.125), Attr: 7, Area: 0.5}}
	const text = three + "1 1\n1 1 3 5\n0\n1\n1 1b-3 1b-3 7 1b-1\n"
	readIs(t, text, nodefile.File{}, f, 0, api.OK)
	if got, err := polyfile.Write(f); got != text || err != api.OK {
		t.Errorf("Write: %q, %v, want %q", got, err, text)
	}
}

// P12.1: the file is known ahead of the lines that are made of it.
func TestDrawnFilesRead(t *testing.T) {
	r := rand.New(rand.NewPCG(12, 1))
	kinds := map[[6]bool]int{}
	for range 10000 {
		f := drawnFile(r)
		l, err := modelLines(f)
		if err != api.OK {
			t.Fatal("the model's lines:", err)
		}
		text, _ := widened(r, l)
		other := otherOf(r, f)
		readIs(t, text, other, f, 0, api.OK)
		asked(t, text, other)
		kinds[[6]bool{f.Elsewhere, f.Nodes.Zero, f.Marks, len(f.Segs) > 0, len(f.Holes) > 0, len(f.Regions) > 0}]++
	}
	least := 10000
	for _, n := range kinds {
		least = min(least, n)
	}
	if len(kinds) != 64 || least < 10 {
		t.Error("of the kinds there are", kinds)
	}
}

// P12.1, with any other file: of what has no points of its own the ends are
// asked of those of the other one.
func TestDrawnOthers(t *testing.T) {
	r := rand.New(rand.NewPCG(12, 2))
	kinds := map[api.Errno]int{}
	for range 10000 {
		f := drawnFile(r)
		l, _ := modelLines(f)
		text, _ := widened(r, l)
		kinds[asked(t, text, drawnNodes(r, r.IntN(7)))]++
	}
	if kinds[api.OK] < 3000 || kinds[api.ErrForm] < 100 || kinds[api.ErrIndex] < 100 {
		t.Error("of the kinds there are", kinds)
	}
}

// P12.1, on lines of which some are wrong, with one fault or more.
func TestDrawnFaults(t *testing.T) {
	r := rand.New(rand.NewPCG(12, 3))
	kinds := map[api.Errno]int{}
	for range 60000 {
		f := drawnFile(r)
		l, _ := modelLines(f)
		for range 1 + r.IntN(2)*r.IntN(3) {
			l = spoilt(r, l)
		}
		text := plain(l)
		if r.IntN(2) == 0 {
			text, _ = widened(r, l)
		}
		kinds[asked(t, text, otherOf(r, f))]++
	}
	if kinds[api.OK] < 3000 || kinds[api.ErrForm] < 5000 || kinds[api.ErrRange] < 1000 || kinds[api.ErrFull] < 300 || kinds[api.ErrIndex] < 300 {
		t.Error("of the kinds there are", kinds)
	}
}

// P12.2, with texts put together by the model.
func TestDrawnFilesWritten(t *testing.T) {
	r := rand.New(rand.NewPCG(12, 4))
	for range 10000 {
		f := drawnFile(r)
		text, err := writeIs(t, f)
		if l, _ := modelLines(f); text != plain(l) || err != api.OK {
			t.Fatalf("Write: %q, %v, want %q", text, err, plain(l))
		}
	}
}

// R3: what stands behind the ends of lists is not looked at.
func TestSpareRoom(t *testing.T) {
	nodes := append(threeNodes().Nodes, api.Node{P: point(0x1p200, 0), Attr: []float64{1}, Mark: 7})
	segs := []api.Seg{{A: 0, B: 2}, {A: 1, B: 3}, {A: 0, B: 1, Mark: 8}}
	holes := []api.Point{{X: 1, Y: 1}, {X: 0x1p101}}
	regions := []api.Region{{Attr: 3}, {P: point(0, 0x1p101)}}
	f := polyfile.File{Nodes: nodefile.File{Nodes: nodes[:3]}, Segs: segs[:1], Holes: holes[:1], Regions: regions[:1]}
	text, err := writeIs(t, f)
	if err != api.OK {
		t.Fatal("Write:", err)
	}
	readIs(t, text, nodefile.File{}, f, 0, api.OK)
	const short = "0 2 0 0\n1 0\n1 3 1\n0"
	want := polyfile.File{Nodes: threeNodes(), Elsewhere: true, Segs: []api.Seg{{A: 2, B: 0}}}
	readIs(t, short, f.Nodes, want, 0, api.OK)
	readIs(t, strings.ReplaceAll(short, "3", "4"), f.Nodes, polyfile.File{}, 3, api.ErrIndex)
	for _, spoil := range []func(f *polyfile.File){
		func(f *polyfile.File) { f.Segs = segs[:2] }, func(f *polyfile.File) { f.Holes = holes }, func(f *polyfile.File) { f.Regions = regions },
	} {
		worse := f
		spoil(&worse)
		if _, err := writeIs(t, worse); err == api.OK {
			t.Error("what is no longer behind the end is passed over")
		}
	}
}

// R3: what is read lies in memory of its own, also what is of the other file;
// what is written there is seen in no other list, and in no later answer.
func TestOwnMemory(t *testing.T) {
	var nodes []api.Node
	want := polyfile.File{Elsewhere: true}
	for i := range 40 {
		x := float64(i)
		nodes = append(nodes, api.Node{P: point(x, 9-x), Attr: []float64{x + 0.5, x, 0}, Mark: i})
		want.Segs = append(want.Segs, api.Seg{A: i, B: 39 - i})
		want.Holes = append(want.Holes, point(x, x))
		want.Regions = append(want.Regions, api.Region{P: point(x, 0), Attr: x, Area: -x + 0})
	}
	other := nodefile.File{Nodes: nodes, Attrs: 3, Marks: true}
	want.Nodes = other
	text, err := polyfile.Write(want)
	if err != api.OK {
		t.Fatal("Write:", err)
	}
	read, _, _ := polyfile.Read(text, other)
	kept := keptNodes(nodes)
	for i := range read.Nodes.Nodes {
		room := read.Nodes.Nodes[i].Attr
		room = room[:cap(room)]
		for k := range room {
			room[k] = 99
		}
		if !slices.EqualFunc(read.Nodes.Nodes[i+1:], nodes[i+1:], sameNode) {
			t.Fatal("two nodes share their memory")
		}
	}
	clear(read.Nodes.Nodes[:cap(read.Nodes.Nodes)])
	if !stillNodes(nodes, kept) {
		t.Fatal("what is read shares its memory with the other file")
	}
	clear(read.Segs[:cap(read.Segs)])
	clear(read.Holes[:cap(read.Holes)])
	clear(read.Regions[:cap(read.Regions)])
	readIs(t, text, other, want, 0, api.OK)
	before, _, _ := polyfile.Read(text, other)
	clear(other.Nodes)
	if !slices.EqualFunc(before.Nodes.Nodes, kept[:len(nodes)], sameNode) {
		t.Fatal("what was read shows what was written to the other file")
	}
}

// R2: the same texts and files, whatever came between, are answered the same.
func TestAskedAgain(t *testing.T) {
	f := exampleFile()
	for _, text := range []string{three + "1 1\n1 1 3 5\n0\n", three + "1 0\n1 1 3 5\n0\n", "0 2 0 0\n1 0\n1 1 2\n0", "", "0 2 0 0\n0 0\n0"} {
		first, at, err := polyfile.Read(text, threeNodes())
		polyfile.Read("1 2 0 0\n0 4 4\n0 1\n1\n0 3 3", nodefile.File{})
		polyfile.Write(f)
		polyfile.Write(polyfile.File{Elsewhere: true})
		readIs(t, text, threeNodes(), first, at, err)
		asked(t, text, threeNodes())
	}
	writeIs(t, f)
	writeIs(t, f)
}
