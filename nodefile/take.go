package nodefile

import (
	"errors"
	"slices"

	"trivet/api"
	"trivet/lines"
	"trivet/words"
)

// Take is the file that the first ones of lines tell.
func Take(l []lines.Line) (File, int, int, api.Errno) {
	f, err := taken(l)
	if err != nil {
		at, why := told(err)
		return File{}, 0, at, why
	}
	return f, 1 + len(f.Nodes), 0, api.OK
}

// told finds in an error of taken where it is, and what.
func told(err error) (int, api.Errno) {
	var where words.Fault
	var what api.Errno
	errors.As(err, &where)
	errors.As(err, &what)
	return where.At, what
}

// taken reads line by line. No more room is made for nodes than there are lines,
// since the first one can say any number.
func taken(l []lines.Line) (File, error) {
	if len(l) == 0 {
		return File{}, words.Fault{At: 1, Why: api.ErrForm}
	}
	f, count, err := head(l[0].Words)
	if err != nil {
		return File{}, words.Fault{At: l[0].No, Why: err}
	}
	// The first node's number says from where on all of them are counted.
	mayStand := func(n int) bool {
		if len(f.Nodes) == 0 {
			f.Zero = n == 0
		}
		return n == number(f, len(f.Nodes))
	}
	f.Nodes = slices.Grow(f.Nodes, min(count, len(l)-1))
	for i := range count {
		if i+1 == len(l) {
			return File{}, words.Fault{At: l[i].No + 1, Why: api.ErrForm}
		}
		node, err := nodeOf(l[i+1].Words, f, mayStand)
		if err != nil {
			return File{}, words.Fault{At: l[i+1].No, Why: err}
		}
		f.Nodes = append(f.Nodes, node)
	}
	return f, nil
}

// head is what the first line says: a file that has no nodes yet, and how many
// they are.
func head(line []string) (File, int, error) {
	r := words.Of(line, 4)
	count := r.Whole(words.FromNought)
	r.Whole(func(n int) bool { return n == 2 })
	attrs := r.Whole(words.FromNought)
	marks := r.Whole(func(n int) bool { return n == 0 || n == 1 })
	r.Hold(count <= api.MaxPoints && attrs <= api.MaxAttrs, api.ErrFull)
	return File{Attrs: attrs, Marks: marks == 1}, count, r.Err()
}

// nodeOf is the node of a line; f says how many words it has.
func nodeOf(line []string, f File, mayStand func(n int) bool) (api.Node, error) {
	var node api.Node
	r := words.Of(line, width(f))
	r.Whole(mayStand)
	node.P = r.Point()
	node.Attr = slices.Grow(node.Attr, f.Attrs)
	for range f.Attrs {
		node.Attr = append(node.Attr, r.Float())
	}
	if f.Marks {
		node.Mark = r.Whole(words.Whichever)
	}
	return node, r.Err()
}
