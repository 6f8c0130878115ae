package nodefile_test

import (
	"strings"
	"testing"

	"trivet/api"
	"trivet/digits"
	"trivet/lines"
	"trivet/nodefile"
)

// MaxPoints nodes told in the first line, and one more, ahead of any node.
func TestMostPointsTold(t *testing.T) {
	readIs(t, "1048576 2 0 0", nodefile.File{}, 2, api.ErrForm)
	readIs(t, "1048576 2 16 1\n2 0 0", nodefile.File{}, 2, api.ErrForm)
	readIs(t, "1048577 2 0 0", nodefile.File{}, 1, api.ErrFull)
	readIs(t, "1048577 2 0 0\n2 0 0", nodefile.File{}, 1, api.ErrFull)
}

// many are nodes that are told by few bytes.
func many(count int) []api.Node {
	nodes := make([]api.Node, count)
	for i := range nodes {
		nodes[i].P = api.Point{X: float64(i % 10), Y: -float64(i % 7)}
		nodes[i].P.Y += 0 // no -0
	}
	return nodes
}

// As many nodes as there may be, written, read and taken; and one more.
func TestMostPoints(t *testing.T) {
	nodes := many(api.MaxPoints + 1)
	for _, zero := range []bool{false, true} {
		f := nodefile.File{Nodes: nodes[:api.MaxPoints], Zero: zero}
		text, err := nodefile.Write(f)
		if err != api.OK {
			t.Fatal("Write of MaxPoints nodes:", err)
		}
		readIs(t, text, f, 0, api.OK)
		readIs(t, text+"1048577 0 0\n", nodefile.File{}, api.MaxPoints+2, api.ErrForm)
		readIs(t, text[:strings.LastIndex(text[:len(text)-1], "\n")], nodefile.File{}, api.MaxPoints+1, api.ErrForm)
		l, _, _ := lines.Read(text)
		if got, used, at, err := nodefile.Take(l); !sameFile(got, f) || used != api.MaxPoints+1 || at != 0 || err != api.OK {
			t.Error("Take of MaxPoints nodes:", used, at, err)
		}
		over := nodefile.File{Nodes: nodes, Zero: zero}
		if l, err := nodefile.Put(over); l != nil || err != api.ErrFull {
			t.Error("Put of a node more:", len(l), err)
		}
		if text, err := nodefile.Write(over); text != "" || err != api.ErrFull {
			t.Error("Write of a node more:", len(text), err)
		}
	}
}

// Too many nodes come ahead of all else that is wrong with a file.
func TestTooManyFirst(t *testing.T) {
	nodes := many(api.MaxPoints + 1)
	nodes[0].P.X = 0x1p101
	nodes[1].Mark = 3
	for _, f := range []nodefile.File{{Nodes: nodes}, {Nodes: nodes, Attrs: -1}, {Nodes: nodes, Attrs: 17, Marks: true, Zero: true}} {
		if l, err := nodefile.Put(f); l != nil || err != api.ErrFull {
			t.Error("Put:", len(l), err)
		}
		if text, err := nodefile.Write(f); text != "" || err != api.ErrFull {
			t.Error("Write:", len(text), err)
		}
		f.Nodes = nodes[1:]
		if l, err := nodefile.Put(f); l != nil || err != api.ErrArg {
			t.Error("Put of MaxPoints nodes, one of them wrong:", len(l), err)
		}
	}
}

// A file that may be, and whose text would be too long: Put tells its lines,
// Write what lines.Write answers.
func TestTooLongToWrite(t *testing.T) {
	attrs := make([]float64, api.MaxAttrs)
	for i := range attrs {
		attrs[i] = -0x1.fffffffffffffp-1022
	}
	nodes := make([]api.Node, 45000)
	for i := range nodes {
		nodes[i].Attr = attrs
	}
	f := nodefile.File{Nodes: nodes, Attrs: api.MaxAttrs}
	l, err := nodefile.Put(f)
	if len(l) != len(nodes)+1 || err != api.OK {
		t.Fatal("Put:", len(l), err)
	}
	_, wantErr := lines.Write(l)
	if text, err := nodefile.Write(f); text != "" || err != api.ErrFull || wantErr != err {
		t.Errorf("Write: %d bytes, %v", len(text), err)
	}
	f.Nodes = nodes[:30000]
	text, err := nodefile.Write(f)
	if err != api.OK {
		t.Fatal("Write of fewer nodes:", err)
	}
	readIs(t, text, f, 0, api.OK)
}

// A float's text can be longer than another text of the same float: what was
// read of a long text can be too long to be written.
func TestLongerThanItWas(t *testing.T) {
	var text strings.Builder
	text.WriteString("150000 2 16 0\n")
	for i := range 150000 {
		text.WriteString(digits.Show(i) + " 0 0" + strings.Repeat(" 1b52", 16) + "\n")
	}
	f, at, err := nodefile.Read(text.String())
	if len(f.Nodes) != 150000 || at != 0 || err != api.OK {
		t.Fatal("Read:", len(f.Nodes), at, err)
	}
	if written, err := nodefile.Write(f); written != "" || err != api.ErrFull {
		t.Errorf("Write: %d bytes, %v", len(written), err)
	}
}
