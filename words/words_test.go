package words_test

import (
	"errors"
	"math"
	"strings"
	"testing"

	"trivet/api"
	"trivet/words"
)

func row(line string, count int) *words.Row { return words.Of(strings.Fields(line), count) }

func TestTaken(t *testing.T) {
	r := row("7 -3 3b-2 1 1b100 -1b-100", 6)
	a, b, x, y, p := r.Whole(words.FromNought), r.Whole(words.Whichever), r.Float(), r.Float(), r.Point()
	if a != 7 || b != -3 || x != 0.75 || y != 1 || p != (api.Point{X: 0x1p100, Y: -0x1p-100}) || r.Err() != nil {
		t.Error(a, b, x, y, p, r.Err())
	}
}

func TestCount(t *testing.T) {
	for count := range 6 {
		if err := row("1 2 3", count).Err(); count == 3 != (err == nil) || err != nil && err != api.ErrForm {
			t.Errorf("three words of %d: %v", count, err)
		}
	}
	r := words.Of(nil, 1)
	if n, x := r.Whole(words.Whichever), r.Float(); n != 0 || x != 0 || r.Err() != api.ErrForm {
		t.Error(n, x, r.Err())
	}
}

func TestWrongWords(t *testing.T) {
	whole := func(may func(n int) bool) func(r *words.Row) { return func(r *words.Row) { r.Whole(may) } }
	float := func(r *words.Row) { r.Float() }
	point := func(r *words.Row) { r.Point() }
	for _, x := range []struct {
		line string
		take func(r *words.Row)
		err  error
	}{
		{"0", whole(words.FromNought), nil}, {"-1", whole(words.FromNought), api.ErrForm}, {"-1", whole(words.Whichever), nil},
		{"x", whole(words.Whichever), api.ErrForm}, {"-0", whole(words.Whichever), api.ErrForm}, {"1b1", whole(words.Whichever), api.ErrForm},
		{"1b1", float, nil}, {"1.5", float, api.ErrForm}, {"1b1024", float, api.ErrRange},
		{"1b101 0", point, api.ErrRange}, {"0 1b-101", point, api.ErrRange}, {"1b101 x", point, api.ErrForm}, {"x 1b2000", point, api.ErrForm}, {"1b2000 x", point, api.ErrRange},
	} {
		r := row(x.line, len(strings.Fields(x.line)))
		if x.take(r); r.Err() != x.err {
			t.Errorf("%q: %v, want %v", x.line, r.Err(), x.err)
		}
	}
}

// Behind the first thing that is wrong no word is looked at, no question asked,
// and nothing else kept.
func TestFirstKept(t *testing.T) {
	r := row("1b2000 x 1", 3)
	r.Float()
	n := r.Whole(func(int) bool { t.Error("asked behind a fault"); return true })
	r.Hold(false, api.ErrIndex)
	if p := r.Point(); n != 0 || p != (api.Point{}) || r.Err() != api.ErrRange {
		t.Error(n, p, r.Err())
	}
	r = row("5", 1)
	r.Whole(words.Whichever)
	r.Hold(true, api.ErrArg)
	if r.Err() != nil {
		t.Error("what is right is kept:", r.Err())
	}
	r.Hold(false, api.ErrIndex)
	if r.Hold(false, api.ErrFull); r.Err() != api.ErrIndex {
		t.Error(r.Err())
	}
}

// The words are left as they were.
func TestWordsLeft(t *testing.T) {
	list := []string{"1", "2", "3"}
	r := words.Of(list[:2], 2)
	r.Whole(words.Whichever)
	r.Whole(words.Whichever)
	if strings.Join(list, " ") != "1 2 3" {
		t.Error(list)
	}
}

func TestFault(t *testing.T) {
	var err error = words.Fault{At: 7, Why: api.ErrIndex}
	var where words.Fault
	var what api.Errno
	if !errors.As(err, &where) || !errors.As(err, &what) || where.At != 7 || what != api.ErrIndex || !errors.Is(err, api.ErrIndex) {
		t.Error(where, what)
	}
	if err.Error() != "line 7: trivet: error 11" {
		t.Errorf("%q", err.Error())
	}
	if text := (words.Fault{At: math.MinInt64, Why: api.ErrForm}).Error(); text != "line -9223372036854775808: trivet: error 4" {
		t.Errorf("%q", text)
	}
}
