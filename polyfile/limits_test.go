package polyfile_test

import (
	"strings"
	"testing"

	"trivet/api"
	"trivet/nodefile"
	"trivet/polyfile"
)

// MaxPoints told in a first line, and one more, ahead of any line of the part.
func TestMostTold(t *testing.T) {
	for _, x := range []struct {
		head, tail string
		at         int
	}{{three, " 0", 5}, {three, " 1", 5}, {three + "0 0\n", "", 6}, {three + "0 0\n0\n", "", 7}} {
		refused(t, x.head+"1048576"+x.tail, x.at+1, api.ErrForm)
		refused(t, x.head+"1048576"+x.tail+"\nx", x.at+1, api.ErrForm)
		refused(t, x.head+"1048577"+x.tail, x.at, api.ErrFull)
		refused(t, x.head+"1048577"+x.tail+"\nx", x.at, api.ErrFull)
	}
}

// As many segments, holes and regions as there may be, written and read; and
// one more.
func TestMost(t *testing.T) {
	segs, holes, regions := make([]api.Seg, api.MaxPoints+1), make([]api.Point, api.MaxPoints+1), make([]api.Region, api.MaxPoints+1)
	for i := range segs {
		segs[i].A, segs[i].B = i%3, i%2
		holes[i].X = float64(i % 7)
		regions[i].Area = float64(i % 5)
	}
	cut := func(count int) []polyfile.File {
		return []polyfile.File{{Nodes: threeNodes(), Segs: segs[:count]}, {Nodes: threeNodes(), Holes: holes[:count]}, {Nodes: threeNodes(), Regions: regions[:count]}}
	}
	for i, f := range cut(api.MaxPoints) {
		text, err := polyfile.Write(f)
		if err != api.OK {
			t.Fatal("Write of MaxPoints things:", err)
		}
		readIs(t, text, nodefile.File{}, f, 0, api.OK)
		if i == 2 {
			text = text[:strings.LastIndex(text[:len(text)-1], "\n")]
			readIs(t, text, nodefile.File{}, polyfile.File{}, api.MaxPoints+7, api.ErrForm)
		}
	}
	for _, f := range cut(api.MaxPoints + 1) {
		if text, err := polyfile.Write(f); text != "" || err != api.ErrFull {
			t.Error("Write of a thing more:", len(text), err)
		}
	}
}

// Too many of anything comes ahead of what is wrong with the things, and behind
// what is wrong with the points.
func TestTooManyFirst(t *testing.T) {
	f := polyfile.File{Nodes: threeNodes(), Segs: []api.Seg{{A: 9, Mark: 3}}, Holes: []api.Point{{X: 0x1p101}}, Regions: make([]api.Region, api.MaxPoints+1)}
	if _, err := polyfile.Write(f); err != api.ErrFull {
		t.Error("Write:", err)
	}
	f.Nodes.Nodes[0].P.X = 0x1p101
	if _, err := polyfile.Write(f); err != api.ErrRange {
		t.Error("Write with a point that may not be:", err)
	}
	f.Nodes.Nodes = make([]api.Node, api.MaxPoints+1)
	f.Nodes.Attrs = 3
	if _, err := polyfile.Write(f); err != api.ErrFull {
		t.Error("Write with too many nodes:", err)
	}
}

// A file that may be, and whose text would be too long: what lines.Write answers.
func TestTooLongToWrite(t *testing.T) {
	regions := make([]api.Region, 300000)
	for i := range regions {
		regions[i] = api.Region{P: point(0x1.fffffffffffffp-48, -0x1.fffffffffffffp-48), Attr: -0x1.fffffffffffffp-1022, Area: 0x1.fffffffffffffp-1022}
	}
	f := polyfile.File{Regions: regions}
	if text, err := writeIs(t, f); text != "" || err != api.ErrFull {
		t.Errorf("Write: %d bytes, %v", len(text), err)
	}
	f.Regions = regions[:150000]
	text, err := writeIs(t, f)
	if err != api.OK {
		t.Fatal("Write of fewer regions:", err)
	}
	readIs(t, text, nodefile.File{}, f, 0, api.OK)
}

// Points that stand elsewhere do not count for the length of a text.
func TestManyElsewhere(t *testing.T) {
	nodes := make([]api.Node, 500000)
	for i := range nodes {
		nodes[i].P = point(0x1.fffffffffffffp-48, -0x1.fffffffffffffp-48)
	}
	f := polyfile.File{Nodes: nodefile.File{Nodes: nodes}, Segs: []api.Seg{{A: 499999, B: 0}}}
	if text, err := polyfile.Write(f); text != "" || err != api.ErrFull {
		t.Errorf("Write: %d bytes, %v", len(text), err)
	}
	f.Elsewhere = true
	text, err := polyfile.Write(f)
	if text != "0 2 0 0\n1 0\n1 500000 1\n0\n" || err != api.OK {
		t.Errorf("Write: %q, %v", text, err)
	}
	readIs(t, text, f.Nodes, f, 0, api.OK)
}
