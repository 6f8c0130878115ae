package elefile

import (
	"trivet/api"
	"trivet/digits"
	"trivet/lines"
)

// taker hands out words one by one, and tells whether there was one.
type taker func() (string, bool)

func oneByOne(words []string) taker {
	return func() (string, bool) {
		if len(words) == 0 {
			return "", false
		}
		word := words[0]
		words = words[1:]
		return word, true
	}
}

// wholes takes that many whole numbers, and tells whether all of them are there.
func (next taker) wholes(count int) ([]int, bool) {
	numbers := make([]int, 0, count)
	for range count {
		word, there := next()
		n, wrong := digits.Int(word)
		if !there || wrong != api.OK {
			return nil, false
		}
		numbers = append(numbers, n)
	}
	return numbers, true
}

// texts takes that many words of any kind, and tells whether they are all that
// is left.
func (next taker) texts(count int) ([]string, bool) {
	words := make([]string, 0, count)
	for range count {
		word, there := next()
		if !there {
			return nil, false
		}
		words = append(words, word)
	}
	_, more := next()
	return words, !more
}

// head is what the first line says: a file that has no triangles yet, and how
// many they are.
func head(words []string) (File, int, api.Errno) {
	next := oneByOne(words)
	said, right := next.wholes(3)
	if _, all := next.texts(0); !right || !all {
		return File{}, 0, api.ErrForm
	}
	count, corners, attrs := said[0], said[1], said[2]
	switch {
	case count < 0 || attrs < 0 || corners != 3 && corners != 6:
		return File{}, 0, api.ErrForm
	case count > api.MaxPoints || attrs > api.MaxAttrs:
		return File{}, 0, api.ErrFull
	}
	return File{Corners: corners, Attrs: attrs}, count, api.OK
}

// filled is a file with the triangles that lines tell. No more room is made for
// them than there are lines, since the first one can say any number.
func filled(f File, count int, l []lines.Line) (File, int, api.Errno) {
	f.L = make([]Row, 0, min(count, len(l)))
	for i, line := range l {
		if i == count {
			return File{}, line.No, api.ErrForm
		}
		if i == 0 && line.Words[0] == "1" {
			f.First = 1
		}
		row, wrong := rowOf(line.Words, f)
		if wrong != api.OK {
			return File{}, line.No, wrong
		}
		f.L = append(f.L, row)
	}
	if len(l) < count {
		return File{}, 0, api.ErrForm
	}
	return f, 0, api.OK
}

// rowOf is the triangle of a line, the next one of a file. The form of all of the
// line comes ahead of what its words say.
func rowOf(words []string, f File) (Row, api.Errno) {
	next := oneByOne(words)
	numbers, right := next.wholes(1 + f.Corners)
	texts, all := next.texts(f.Attrs)
	if !right || !all || numbers[0] != f.First+len(f.L) {
		return Row{}, api.ErrForm
	}
	corners := numbers[1 : 1+f.Corners : 1+f.Corners]
	for i, n := range corners {
		if n < f.First || n >= f.First+api.MaxPoints {
			return Row{}, api.ErrIndex
		}
		corners[i] = n - f.First
	}
	attrs, wrong := floats(texts)
	if wrong != api.OK {
		return Row{}, wrong
	}
	return Row{T: corners, A: attrs}, api.OK
}

// floats are the numbers of texts.
func floats(texts []string) ([]float64, api.Errno) {
	list := make([]float64, 0, len(texts))
	for _, text := range texts {
		x, wrong := digits.Float(text)
		if wrong != api.OK {
			return nil, wrong
		}
		list = append(list, x)
	}
	return list[:len(texts):len(texts)], api.OK
}
