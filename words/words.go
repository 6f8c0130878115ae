// Package words takes the words of a line one by one, up to the first thing
// that is wrong. The layers whose files tell points share it.
package words

import (
	"trivet/admit"
	"trivet/api"
	"trivet/digits"
)

// Fault is what is wrong, with the number of the line at which it is.
type Fault struct {
	At  int
	Why error
}

func (f Fault) Error() string { return "line " + digits.Show(f.At) + ": " + f.Why.Error() }

// Unwrap is what is wrong, wherever it is.
func (f Fault) Unwrap() error { return f.Why }

// Row is a line whose words are taken one by one. It keeps the first thing that
// is wrong, behind which no word is looked at, and all that is taken is 0.
type Row struct {
	left []string
	err  error
}

// Of is a line that must have that many words. No more of them may be taken.
func Of(words []string, count int) *Row {
	r := &Row{left: words}
	r.Hold(len(words) == count, api.ErrForm)
	return r
}

// Err is the first thing that is wrong, if there is one.
func (r *Row) Err() error { return r.err }

// Hold keeps what is wrong, unless something ahead of it was.
func (r *Row) Hold(right bool, why api.Errno) {
	if r.err == nil && !right {
		r.err = why
	}
}

func (r *Row) word() string {
	if r.err != nil {
		return ""
	}
	word := r.left[0]
	r.left = r.left[1:]
	return word
}

// Whole takes a whole number that may stand there.
func (r *Row) Whole(may func(n int) bool) int {
	n, wrong := digits.Int(r.word())
	r.Hold(wrong == api.OK && may(n), api.ErrForm)
	return n
}

// Float takes a float.
func (r *Row) Float() float64 {
	x, wrong := digits.Float(r.word())
	r.Hold(wrong == api.OK, wrong)
	return x
}

// Point takes two floats, and a point that may be.
func (r *Row) Point() api.Point {
	p := api.Point{X: r.Float(), Y: r.Float()}
	r.Hold(admit.May(p), api.ErrRange)
	return p
}

// FromNought asks for a number from 0 on.
func FromNought(n int) bool { return n >= 0 }

// Whichever asks for nothing.
func Whichever(int) bool { return true }
