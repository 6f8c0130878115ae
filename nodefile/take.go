package nodefile

import (
	"errors"
	"slices"

	"trivet/admit"
	"trivet/api"
	"trivet/digits"
	"trivet/lines"
)

// fault is what is wrong, with the number of the line at which it is.
type fault struct {
	at  int
	why error
}

func (f fault) Error() string { return "line " + digits.Show(f.at) + ": " + f.why.Error() }

func (f fault) Unwrap() error { return f.why }

// Take is the file that the first ones of lines tell.
func Take(l []lines.Line) (File, int, int, api.Errno) {
	f, err := taken(l)
	if err != nil {
		at, why := told(err)
		return File{}, 0, at, why
	}
	return f, 1 + len(f.Nodes), 0, api.OK
}

// told finds in an error of taken where it is, and what.
func told(err error) (int, api.Errno) {
	var where fault
	var what api.Errno
	errors.As(err, &where)
	errors.As(err, &what)
	return where.at, what
}

// taken reads line by line. No more room is made for nodes than there are lines,
// since the first one can say any number.
func taken(l []lines.Line) (File, error) {
	if len(l) == 0 {
		return File{}, fault{1, api.ErrForm}
	}
	f, count, err := head(l[0].Words)
	if err != nil {
		return File{}, fault{l[0].No, err}
	}
	// The first node's number says from where on all of them are counted.
	mayStand := func(n int) bool {
		if len(f.Nodes) == 0 {
			f.Zero = n == 0
		}
		return n == number(f, len(f.Nodes))
	}
	f.Nodes = slices.Grow(f.Nodes, min(count, len(l)-1))
	for i := range count {
		if i+1 == len(l) {
			return File{}, fault{l[i].No + 1, api.ErrForm}
		}
		node, err := nodeOf(l[i+1].Words, f, mayStand)
		if err != nil {
			return File{}, fault{l[i+1].No, err}
		}
		f.Nodes = append(f.Nodes, node)
	}
	return f, nil
}

// head is what the first line says: a file that has no nodes yet, and how many
// they are.
func head(words []string) (File, int, error) {
	r := rowOf(words, 4)
	count := r.whole(fromNought)
	r.whole(func(n int) bool { return n == 2 })
	attrs := r.whole(fromNought)
	marks := r.whole(func(n int) bool { return n == 0 || n == 1 })
	r.hold(count <= api.MaxPoints && attrs <= api.MaxAttrs, api.ErrFull)
	return File{Attrs: attrs, Marks: marks == 1}, count, r.err
}

func fromNought(n int) bool { return n >= 0 }

func whichever(int) bool { return true }

// nodeOf is the node of a line; f says how many words it has.
func nodeOf(words []string, f File, mayStand func(n int) bool) (api.Node, error) {
	var node api.Node
	r := rowOf(words, width(f))
	r.whole(mayStand)
	node.P.X = r.float()
	node.P.Y = r.float()
	r.hold(admit.May(node.P), api.ErrRange)
	node.Attr = slices.Grow(node.Attr, f.Attrs)
	for range f.Attrs {
		node.Attr = append(node.Attr, r.float())
	}
	if f.Marks {
		node.Mark = r.whole(whichever)
	}
	return node, r.err
}

// row is a line whose words are taken one by one. It keeps the first thing that
// is wrong, behind which no word is looked at.
type row struct {
	left []string
	err  error
}

func rowOf(words []string, count int) *row {
	r := &row{left: words}
	r.hold(len(words) == count, api.ErrForm)
	return r
}

// hold keeps what is wrong, unless something ahead of it was.
func (r *row) hold(right bool, why api.Errno) {
	if r.err == nil && !right {
		r.err = why
	}
}

func (r *row) word() string {
	if r.err != nil {
		return ""
	}
	word := r.left[0]
	r.left = r.left[1:]
	return word
}

// whole takes a whole number that may stand there.
func (r *row) whole(may func(n int) bool) int {
	n, wrong := digits.Int(r.word())
	r.hold(wrong == api.OK && may(n), api.ErrForm)
	return n
}

func (r *row) float() float64 {
	x, wrong := digits.Float(r.word())
	r.hold(wrong == api.OK, wrong)
	return x
}
