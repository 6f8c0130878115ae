package eft_test

import (
	"math"
	"math/big"
	"math/rand/v2"
	"testing"

	"trivet/eft"
)

// modelBits is more than a sum or a product of two floats has, so that the
// model rounds only where it is asked to.
const modelBits = 4400

func exactly(x float64) *big.Float { return new(big.Float).SetPrec(modelBits).SetFloat64(x) }

func sumOf(a, b float64) *big.Float {
	return new(big.Float).SetPrec(modelBits).Add(exactly(a), exactly(b))
}

func diffOf(a, b float64) *big.Float {
	return new(big.Float).SetPrec(modelBits).Sub(exactly(a), exactly(b))
}

func prodOf(a, b float64) *big.Float {
	return new(big.Float).SetPrec(modelBits).Mul(exactly(a), exactly(b))
}

func rounded(n *big.Float) float64 {
	x, _ := n.Float64()
	return x
}

// modelTame and modelSafe ask by exponents, not by comparing floats.
func modelTame(x float64) bool {
	if math.IsNaN(x) || math.IsInf(x, 0) {
		return false
	}
	part, exponent := math.Frexp(math.Abs(x))
	return exponent <= 1000 || exponent == 1001 && part == 0.5
}

func modelSafe(x float64) bool {
	if math.IsNaN(x) || math.IsInf(x, 0) {
		return false
	}
	part, exponent := math.Frexp(math.Abs(x))
	return part == 0 || -449 <= exponent && (exponent <= 450 || exponent == 451 && part == 0.5)
}

// bitsOf counts from a float's highest bit to its lowest one.
func bitsOf(x float64) int { return int(exactly(x).MinPrec()) }

// halfGap is half of what stands between x and the float next to it on the
// side that has the sign of y.
func halfGap(x, y float64) *big.Float {
	next := math.Nextafter(x, math.Copysign(math.Inf(1), y))
	gap := diffOf(next, x)
	gap.Abs(gap)
	return gap.Quo(gap, exactly(2))
}

// told holds what a call told against the exact number: P2.1, P2.2 and P2.3.
func told(t *testing.T, what string, a, b, x, y float64, may bool, exact func(a, b float64) *big.Float) {
	t.Helper()
	if !may {
		if x != 0 || y != 0 {
			t.Errorf("%s(%x, %x) is refused, but tells %x, %x", what, a, b, x, y)
		}
		return
	}
	number := exact(a, b)
	if x != rounded(number) {
		t.Errorf("%s(%x, %x): %x, want %x", what, a, b, x, rounded(number))
	}
	if sumOf(x, y).Cmp(number) != 0 {
		t.Errorf("%s(%x, %x): %x and %x are not together just it", what, a, b, x, y)
	}
	if x+y != x {
		t.Errorf("%s(%x, %x): (%x + %x) is %x", what, a, b, x, y, x+y)
	}
	if size := exactly(math.Abs(y)); size.Cmp(halfGap(x, y)) > 0 {
		t.Errorf("%s(%x, %x): %x is more than half of what stands beside %x", what, a, b, y, x)
	}
}

// tellAll asks all calls of two floats.
func tellAll(t *testing.T, a, b float64) {
	t.Helper()
	tame, safe := modelTame(a) && modelTame(b), modelSafe(a) && modelSafe(b)
	x, y := eft.Sum(a, b)
	told(t, "Sum", a, b, x, y, tame, sumOf)
	x, y = eft.Diff(a, b)
	told(t, "Diff", a, b, x, y, tame, diffOf)
	x, y = eft.Prod(a, b)
	told(t, "Prod", a, b, x, y, safe, prodOf)
}

// turnedAbout asks all of P2.5 of two floats.
func turnedAbout(t *testing.T, a, b float64) {
	t.Helper()
	sumX, sumY := eft.Sum(a, b)
	if x, y := eft.Sum(b, a); x != sumX || y != sumY {
		t.Errorf("Sum(%x, %x): %x, %x; of both the other way: %x, %x", a, b, sumX, sumY, x, y)
	}
	if x, y := eft.Sum(-a, -b); x != -sumX || y != -sumY {
		t.Errorf("Sum(%x, %x): %x, %x; turned about: %x, %x", a, b, sumX, sumY, x, y)
	}
	diffX, diffY := eft.Diff(a, b)
	if x, y := eft.Diff(b, a); x != -diffX || y != -diffY {
		t.Errorf("Diff(%x, %x): %x, %x; of both the other way: %x, %x", a, b, diffX, diffY, x, y)
	}
	prodX, prodY := eft.Prod(a, b)
	if x, y := eft.Prod(b, a); x != prodX || y != prodY {
		t.Errorf("Prod(%x, %x): %x, %x; of both the other way: %x, %x", a, b, prodX, prodY, x, y)
	}
}

// modelSplit goes by P2.2's formula, each bracket rounded to a float's 53 bits.
func modelSplit(a float64) (float64, float64) {
	step := func() *big.Float { return new(big.Float).SetPrec(53) }
	whole := step().SetFloat64(a)
	c := step().Mul(step().SetFloat64(134217729), whole)
	x := step().Sub(c, step().Sub(c, whole))
	return rounded(x), rounded(step().Sub(whole, x))
}

// inHalves asks P2.2 and P2.4 of Split.
func inHalves(t *testing.T, a float64) {
	t.Helper()
	x, y := eft.Split(a)
	if !modelSafe(a) {
		if x != 0 || y != 0 {
			t.Errorf("Split(%x) is refused, but tells %x, %x", a, x, y)
		}
		return
	}
	if wantX, wantY := modelSplit(a); x != wantX || y != wantY {
		t.Errorf("Split(%x): %x, %x, want %x, %x", a, x, y, wantX, wantY)
	}
	if sumOf(x, y).Cmp(exactly(a)) != 0 {
		t.Errorf("Split(%x): %x and %x are not together just it", a, x, y)
	}
	if bitsOf(x) > 26 || bitsOf(y) > 26 {
		t.Errorf("Split(%x): %x and %x have %d and %d bits", a, x, y, bitsOf(x), bitsOf(y))
	}
}

// unrounded asks that no product of two halves is rounded.
func unrounded(t *testing.T, a, b float64) {
	t.Helper()
	a1, a2 := eft.Split(a)
	b1, b2 := eft.Split(b)
	for _, p := range [][2]float64{{a1, b1}, {a1, b2}, {a2, b1}, {a2, b2}} {
		if exactly(p[0]*p[1]).Cmp(prodOf(p[0], p[1])) != 0 {
			t.Errorf("the halves %x of %x and %x of %x have a product that is rounded", p[0], a, p[1], b)
		}
	}
}

// anyFloat has an exponent from low to high; every third one has few bits, or
// a long run of ones, so that ties and cancelling come about.
func anyFloat(r *rand.Rand, low, high int) float64 {
	bits := r.Uint64() >> 11
	switch r.IntN(6) {
	case 0:
		bits = bits >> 40 << 40
	case 1:
		bits |= 1<<(1+r.IntN(52)) - 1
	}
	x := math.Ldexp(float64(bits|1<<52), low-52+r.IntN(high-low+1))
	if r.IntN(2) == 0 {
		return -x
	}
	return x
}

// sides are the floats, those next to them, and all of them below 0.
func sides(floats ...float64) []float64 {
	var all []float64
	for _, x := range floats {
		for _, y := range []float64{math.Nextafter(x, math.Inf(-1)), x, math.Nextafter(x, math.Inf(1))} {
			all = append(all, y, -y)
		}
	}
	return all
}

func noFloats() []float64 { return []float64{math.Inf(1), math.Inf(-1), math.NaN()} }

func edgeFloats() []float64 {
	edges := sides(0, 1, 3, 0x1p26, 0x1p27, 0x1p52, 0x1p53, 0x1p-450, 0x1p450, 0x1p-1022, 0x1p1000)
	edges = append(edges, math.Copysign(0, -1), 0.1, 1<<53+2, 0x1p-60, 0x1p-451, 0x1p451, 0x1p999, 0x1p1001)
	edges = append(edges, math.MaxFloat64, -math.MaxFloat64, 0x1.fffffffffffffp-450, 0x1.fffffffffffffp449)
	return append(edges, noFloats()...)
}
