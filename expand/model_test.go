package expand_test

import (
	"math"
	"math/big"
	"math/rand/v2"
	"slices"
	"testing"

	"trivet/expand"
)

// modelBits is more than any sum or product here has, so that the model rounds
// nothing.
const modelBits = 4400

func newModel() *big.Float { return new(big.Float).SetPrec(modelBits) }

func exactly(x float64) *big.Float { return newModel().SetFloat64(x) }

func numberOf(e []float64) *big.Float {
	sum := newModel()
	for _, x := range e {
		sum.Add(sum, exactly(x))
	}
	return sum
}

func sumOf(l ...[]float64) *big.Float { return numberOf(slices.Concat(l...)) }

func productOf(e, f []float64) *big.Float { return newModel().Mul(numberOf(e), numberOf(f)) }

// modelLow is the exponent of a float's lowest bit.
func modelLow(x float64) int {
	f := exactly(x)
	return f.MantExp(nil) - int(f.MinPrec())
}

// modelMay asks by exponents, not by comparing floats.
func modelMay(e []float64, least, most int) bool {
	for i, x := range e {
		if math.IsNaN(x) || math.IsInf(x, 0) || x == 0 {
			return false
		}
		size := exactly(math.Abs(x))
		if size.Cmp(power(least)) < 0 || size.Cmp(power(most)) > 0 {
			return false
		}
		if i > 0 && exactly(math.Abs(e[i-1])).Cmp(power(modelLow(x))) >= 0 {
			return false
		}
	}
	return len(e) <= expand.MaxTerms
}

func power(k int) *big.Float { return newModel().SetMantExp(exactly(1), k) }

func modelCheck(e []float64) bool { return modelMay(e, -1074, 990) }

func modelSafe(e []float64) bool { return modelMay(e, -450, 450) }

func modelAddable(e []float64) bool { return modelMay(e, -1074, 900) }

// allAsked holds what is answered of a list alone against the model: P3.1, P3.3
// and P3.5.
func allAsked(t *testing.T, e []float64) {
	t.Helper()
	may := modelCheck(e)
	if expand.Check(e) != may {
		t.Fatalf("Check(%x): %v", e, !may)
	}
	if safe := modelSafe(e); expand.Safe(e) != safe {
		t.Fatalf("Safe(%x): %v", e, !safe)
	}
	turnedAbout(t, e)
	sign, near := expand.Sign(e), expand.Near(e)
	if !may {
		if sign != 0 || near != 0 || expand.Cmp(e, nil) != 0 || expand.Cmp(nil, e) != 0 || expand.Cmp(e, e) != 0 {
			t.Fatalf("%x may not be, but Sign %d, Near %x, Cmp with none %d", e, sign, near, expand.Cmp(e, nil))
		}
		return
	}
	number := numberOf(e)
	if sign != number.Sign() {
		t.Fatalf("Sign(%x): %d, want %d", e, sign, number.Sign())
	}
	if expand.Cmp(e, nil) != sign || expand.Cmp(nil, e) != -sign || expand.Cmp(e, e) != 0 {
		t.Fatalf("Cmp(%x) with none and with itself: %d, %d, %d", e, expand.Cmp(e, nil), expand.Cmp(nil, e), expand.Cmp(e, e))
	}
	nearEnough(t, e, near, number)
	lastLeads(t, e, number)
}

func turnedAbout(t *testing.T, e []float64) {
	t.Helper()
	turned := expand.Neg(e)
	if len(turned) != len(e) {
		t.Fatalf("Neg(%x): %x", e, turned)
	}
	for i, x := range e {
		if y := turned[i]; y != -x && !(math.IsNaN(x) && math.IsNaN(y)) {
			t.Fatalf("Neg(%x): %x", e, turned)
		}
	}
}

func nearEnough(t *testing.T, e []float64, near float64, number *big.Float) {
	t.Helper()
	if math.IsNaN(near) || math.IsInf(near, 0) || exactly(near).Sign() != number.Sign() {
		t.Fatalf("Near(%x): %x, want the sign %d", e, near, number.Sign())
	}
	off := newModel().Sub(exactly(near), number)
	if bound := newModel().Mul(power(-50), number); off.Abs(off).Cmp(bound.Abs(bound)) > 0 {
		t.Fatalf("Near(%x): %x, off by %g", e, near, off)
	}
}

func lastLeads(t *testing.T, e []float64, number *big.Float) {
	t.Helper()
	if len(e) == 0 {
		return
	}
	last := e[len(e)-1]
	if exactly(last).Sign() != number.Sign() {
		t.Fatalf("%x has another sign than its last one", e)
	}
	off := newModel().Sub(exactly(last), number)
	if off.Abs(off).Cmp(power(modelLow(last))) >= 0 {
		t.Fatalf("the last one of %x is off by %g", e, off)
	}
}

// done holds an answer that must be done, or must not be, against the model:
// P3.2 and P3.4.
func done(t *testing.T, what string, e []float64, ok, may bool, number *big.Float) {
	t.Helper()
	switch {
	case ok != may:
		t.Fatalf("%s: done: %v, want %v", what, ok, may)
	case !may:
		if len(e) != 0 {
			t.Fatalf("%s is not done, but tells %x", what, e)
		}
		return
	case !modelCheck(e):
		t.Fatalf("%s: %x may not be", what, e)
	case numberOf(e).Cmp(number) != 0:
		t.Fatalf("%s: %x is off by %g", what, e, newModel().Sub(numberOf(e), number))
	}
	allAsked(t, e)
}

// bothAsked asks all calls of two lists; the model's sums and products are
// reckoned only where the lists have numbers.
func bothAsked(t *testing.T, e, f []float64) {
	t.Helper()
	kept, keptToo := slices.Clone(e), slices.Clone(f)
	var sum, product *big.Float
	mayAdd, mayMul := modelAddable(e) && modelAddable(f), modelSafe(e) && modelSafe(f)
	if mayAdd {
		sum = sumOf(e, f)
	}
	if mayMul {
		product = productOf(e, f)
	}
	a, ok := expand.Add(e, f)
	done(t, "Add", a, ok, mayAdd, sum)
	a, ok = expand.Sum(e, f)
	done(t, "Sum", a, ok, mayAdd, sum)
	a, ok = expand.Mul(e, f)
	done(t, "Mul", a, ok, mayMul, product)
	if len(f) == 1 && f[0] != 0 {
		a, ok = expand.Scale(e, f[0])
		done(t, "Scale", a, ok, mayMul, product)
	}
	want := 0
	if modelCheck(e) && modelCheck(f) {
		want = numberOf(e).Cmp(numberOf(f))
	}
	if got := expand.Cmp(e, f); got != want {
		t.Fatalf("Cmp(%x, %x): %d, want %d", e, f, got, want)
	}
	if !sameBits(e, kept) || !sameBits(f, keptToo) {
		t.Fatalf("%x and %x were changed to %x and %x", kept, keptToo, e, f)
	}
}

func sameBits(e, f []float64) bool {
	return slices.EqualFunc(e, f, func(x, y float64) bool { return math.Float64bits(x) == math.Float64bits(y) })
}

// shape says how the expansions are that are made by chance: floats from 2^low
// to below 2^high, as many as there is room for, at most terms; of each the
// bits, and of each two that follow one another how far they stand apart.
type shape struct {
	terms, low, high int
	bits, apart      func() int
}

// anyExpansion goes from its least float up.
func anyExpansion(r *rand.Rand, s shape) []float64 {
	var e []float64
	for low := s.low; len(e) < s.terms; {
		n := min(max(s.bits(), 1), 53)
		if low+n > s.high {
			break
		}
		x := math.Ldexp(float64(anyBits(r, n)), low)
		if r.IntN(2) == 0 {
			x = -x
		}
		e = append(e, x)
		low += n + s.apart()
	}
	return e
}

// anyBits is an odd number of n bits; every third one has ones alone.
func anyBits(r *rand.Rand, n int) uint64 {
	if r.IntN(3) == 0 {
		return 1<<n - 1
	}
	return r.Uint64()&(1<<n-1) | 1<<(n-1) | 1
}

// anyShape takes floats of few bits, of all bits, and side by side more often
// than others, since it is there that sums are rounded at an end.
func anyShape(r *rand.Rand, low, high int) shape {
	bits := []func() int{
		func() int { return 1 },
		func() int { return 53 },
		func() int { return 1 + r.IntN(53) },
		func() int { return []int{1, 2, 52, 53}[r.IntN(4)] },
	}
	apart := []func() int{
		func() int { return 0 },
		func() int { return r.IntN(3) },
		func() int { return r.IntN(60) },
		func() int { return []int{0, 0, 0, 1, 53, 200}[r.IntN(6)] },
	}
	return shape{
		terms: []int{1, 2, 3, 5, 12, 64}[r.IntN(6)],
		low:   low + r.IntN(high-low)*r.IntN(2),
		high:  high,
		bits:  bits[r.IntN(len(bits))],
		apart: apart[r.IntN(len(apart))],
	}
}

// sides are a float, those next to it, and all of them below 0.
func sides(x float64) []float64 {
	under, over := math.Nextafter(x, 0), math.Nextafter(x, math.Inf(1))
	return []float64{under, x, over, -under, -x, -over}
}

// powers are count powers of two, the first one 2^low, each 2^step times the
// one before it.
func powers(count, low, step int) []float64 {
	e := make([]float64, count)
	for i := range e {
		e[i] = math.Ldexp(1, low+i*step)
	}
	return e
}
