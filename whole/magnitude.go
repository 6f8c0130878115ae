package whole

import (
	"cmp"
	"math"
	"math/bits"
	"slices"
)

const (
	wordBits  = 64
	fractBits = 52    // the bits of a normal float behind its highest one
	leastBit  = -1074 // the lowest bit that a float can have
)

// magnitude is its words, the lowest one first, times 2^low. In its own form
// the lowest bit of the first word is set and the last word is not 0, so that
// low is the lowest bit itself; 0 has no words and low 0. No words are shared or
// written again once a magnitude has them: a number is a value (P1.6).
type magnitude struct {
	words []uint64
	low   int
}

func (m magnitude) isZero() bool { return len(m.words) == 0 }

func (m magnitude) lowest() int { return m.low }

func (m magnitude) highest() int {
	if m.isZero() {
		return 0
	}
	last := len(m.words) - 1
	return m.low + wordBits*last + bits.Len64(m.words[last]) - 1
}

func (m magnitude) word(i int) uint64 {
	if i < len(m.words) {
		return m.words[i]
	}
	return 0
}

// window is the word whose lowest bit is the bit at. All that needs two
// magnitudes in step looks at both through it, wherever their words begin.
func (m magnitude) window(at int) uint64 {
	if at < m.low {
		return m.word(0) << (m.low - at)
	}
	place, bit := (at-m.low)/wordBits, (at-m.low)%wordBits
	return m.word(place)>>bit | m.word(place+1)<<(wordBits-bit)
}

// span is the words from bit low to bit high.
func (m magnitude) span(low, high int) []uint64 {
	words := make([]uint64, (high-low)/wordBits+1)
	for i := range words {
		words[i] = m.window(low + wordBits*i)
	}
	return words
}

// ownForm is the same magnitude without noughts at either end.
func (m magnitude) ownForm() magnitude {
	first, end := 0, len(m.words)
	for end > 0 && m.words[end-1] == 0 {
		end--
	}
	if end == 0 {
		return magnitude{}
	}
	for m.words[first] == 0 {
		first++
	}
	m.words = m.words[:end]
	low := m.low + wordBits*first + bits.TrailingZeros64(m.words[first])
	return magnitude{m.span(low, m.highest()), low}
}

// moved is the magnitude times 2^k; 0 is not to be moved.
func (m magnitude) moved(k int) magnitude {
	return magnitude{slices.Clone(m.words), m.low + k}
}

func (m magnitude) plus(o magnitude) magnitude { return m.joined(o, bits.Add64) }

// minus is for an o that is not greater.
func (m magnitude) minus(o magnitude) magnitude { return m.joined(o, bits.Sub64) }

// joined leaves one bit of room above both, since a sum may reach it.
func (m magnitude) joined(o magnitude, step func(x, y, carry uint64) (uint64, uint64)) magnitude {
	low := min(m.lowest(), o.lowest())
	words := m.span(low, max(m.highest(), o.highest())+1)
	bring(o.span(low, o.highest()), words, step)
	return magnitude{words, low}.ownForm()
}

// bring adds more to words, or takes it off, as step does with each two. Past
// the end of more nothing changes any longer once nothing is carried.
func bring(more, words []uint64, step func(x, y, carry uint64) (uint64, uint64)) {
	var carry uint64
carrying:
	for i := range words {
		var w uint64
		switch {
		case i < len(more):
			w = more[i]
		case carry == 0:
			break carrying
		}
		words[i], carry = step(words[i], w, carry)
	}
}

func (m magnitude) times(o magnitude) magnitude {
	words := make([]uint64, len(m.words)+len(o.words))
	for i, w := range m.words {
		bringTimes(o.words, w, words[i:])
	}
	return magnitude{words, m.low + o.low}.ownForm()
}

// bringTimes adds more times w to words, whose word behind the end of more
// nothing has been added to yet.
func bringTimes(more []uint64, w uint64, words []uint64) {
	var carry uint64
	for i, v := range more {
		high, low := bits.Mul64(v, w)
		low, c := bits.Add64(low, carry, 0)
		high += c
		words[i], c = bits.Add64(words[i], low, 0)
		carry = high + c
	}
	words[len(more)] = carry
}

// against is the sign of m less o.
func (m magnitude) against(o magnitude) int {
	if m.isZero() || o.isZero() {
		return cmp.Compare(len(m.words), len(o.words))
	}
	high := m.highest()
	if c := cmp.Compare(high, o.highest()); c != 0 {
		return c
	}
	low := min(m.low, o.low)
	for at := high - wordBits + 1; at > low-wordBits; at -= wordBits {
		if c := cmp.Compare(m.window(at), o.window(at)); c != 0 {
			return c
		}
	}
	return 0
}

// nearest is the float nearest to it. The bit below the last one that is kept
// is a half of that one; since the lowest bit is set, something lies below the
// half just if the lowest bit does.
func (m magnitude) nearest() float64 {
	last := max(m.highest()-fractBits, leastBit)
	kept := m.window(last-1) >> 1
	half := m.window(last-1)&1 == 1
	if half && (m.low < last-1 || kept&1 == 1) {
		kept++
	}
	return math.Ldexp(float64(kept), last)
}
