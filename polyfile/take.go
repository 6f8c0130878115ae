package polyfile

import (
	"errors"

	"trivet/api"
	"trivet/lines"
	"trivet/nodefile"
	"trivet/words"
)

// reader takes the parts of a file off lines, one behind the other.
type reader struct {
	file  File
	other nodefile.File
	left  []lines.Line
	last  int // the number of the line that was taken last
}

// told finds in an error of a part where it is, and what.
func told(err error) (int, api.Errno) {
	var where words.Fault
	var what api.Errno
	errors.As(err, &where)
	errors.As(err, &what)
	return where.At, what
}

func (r *reader) nodes() error {
	nodes, used, at, wrong := nodefile.Take(r.left)
	if wrong != api.OK {
		return words.Fault{At: at, Why: wrong}
	}
	r.last = r.left[used-1].No
	r.left = r.left[used:]
	if len(nodes.Nodes) == 0 && len(r.other.Nodes) > 0 {
		nodes = copied(r.other)
		r.file.Elsewhere = true
	}
	r.file.Nodes = nodes
	return nil
}

// copied is a file of points that shares no memory with the one that it is of.
func copied(f nodefile.File) nodefile.File {
	nodes := make([]api.Node, len(f.Nodes))
	for i, node := range f.Nodes {
		nodes[i] = node
		nodes[i].Attr = append([]float64(nil), node.Attr...)
	}
	f.Nodes = nodes
	return f
}

func (r *reader) segments() error {
	var count, marks int
	err := r.line(2, func(row *words.Row) {
		count, marks = row.Whole(words.FromNought), row.Whole(words.FromNought)
		row.Hold(count <= api.MaxPoints, api.ErrFull)
		row.Hold(marks <= 1, api.ErrForm)
	})
	if err != nil {
		return err
	}
	r.file.Marks = marks == 1
	r.file.Segs, err = listed(r, count, width(r.file), r.segment)
	return err
}

func (r *reader) segment(row *words.Row) api.Seg {
	seg := api.Seg{A: r.place(row), B: r.place(row)}
	if r.file.Marks {
		seg.Mark = row.Whole(words.Whichever)
	}
	return seg
}

// place takes a node's number, and tells its place.
func (r *reader) place(row *words.Row) int {
	n, least := row.Whole(words.Whichever), first(r.file)
	row.Hold(n >= least && n-least < len(r.file.Nodes.Nodes), api.ErrIndex)
	return n - least
}

func (r *reader) holes() error {
	count, err := r.count()
	if err != nil {
		return err
	}
	r.file.Holes, err = listed(r, count, 3, (*words.Row).Point)
	return err
}

// regions may be left out, with the line that says how many there are.
func (r *reader) regions() error {
	if len(r.left) == 0 {
		return nil
	}
	count, err := r.count()
	if err != nil {
		return err
	}
	r.file.Regions, err = listed(r, count, 5, func(row *words.Row) api.Region {
		return api.Region{P: row.Point(), Attr: row.Float(), Area: row.Float()}
	})
	return err
}

func (r *reader) end() error {
	if len(r.left) > 0 {
		return words.Fault{At: r.left[0].No, Why: api.ErrForm}
	}
	return nil
}

// count takes a line that says how many things there are, and no more.
func (r *reader) count() (int, error) {
	var count int
	err := r.line(1, func(row *words.Row) {
		count = row.Whole(words.FromNought)
		row.Hold(count <= api.MaxPoints, api.ErrFull)
	})
	return count, err
}

// line takes the next line off, which must have that many words, and hands it
// to take.
func (r *reader) line(width int, take func(row *words.Row)) error {
	if len(r.left) == 0 {
		return words.Fault{At: r.last + 1, Why: api.ErrForm}
	}
	next := r.left[0]
	r.left, r.last = r.left[1:], next.No
	row := words.Of(next.Words, width)
	take(row)
	if row.Err() != nil {
		return words.Fault{At: next.No, Why: row.Err()}
	}
	return nil
}

// listed takes a line for each of so many things, behind the number that must
// stand first. No more room is made than there are lines, since any number may
// have been told.
func listed[T any](r *reader, count, width int, take func(row *words.Row) T) ([]T, error) {
	things := make([]T, 0, min(count, len(r.left)))
	for place := range count {
		err := r.line(width, func(row *words.Row) {
			row.Whole(func(n int) bool { return n == first(r.file)+place })
			things = append(things, take(row))
		})
		if err != nil {
			return nil, err
		}
	}
	return things, nil
}
