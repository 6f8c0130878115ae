package whole_test

import (
	"math"
	"math/big"
	"math/rand/v2"
	"testing"

	"trivet/whole"
)

// modelBits is more than any sum or product of two numbers has, so that the
// model, big.Float, rounds nothing.
const modelBits = 8 * whole.Most

func newModel() *big.Float { return new(big.Float).SetPrec(modelBits) }

func power(sign int64, k int) *big.Float {
	return newModel().SetMantExp(newModel().SetInt64(sign), k)
}

func modelHigh(f *big.Float) int {
	if f.Sign() == 0 {
		return 0
	}
	return f.MantExp(nil) - 1
}

func modelLow(f *big.Float) int {
	if f.Sign() == 0 {
		return 0
	}
	return f.MantExp(nil) - int(f.MinPrec())
}

func modelMay(f *big.Float) bool {
	return modelHigh(f) <= whole.Most && modelLow(f) >= -whole.Most
}

// write makes a number out of pieces of 32 bits.
func write(f *big.Float) whole.Num {
	low := modelLow(f)
	n, _ := newModel().SetMantExp(f, -low).Int(nil)
	piece, mask := new(big.Int), big.NewInt(1<<32-1)
	left := new(big.Int).Abs(n)
	var sum whole.Num
	for k := low; left.Sign() != 0; k += 32 {
		sum = sum.Add(whole.Int(piece.And(left, mask).Int64()).Shift(k))
		left.Rsh(left, 32)
	}
	if n.Sign() < 0 {
		return sum.Neg()
	}
	return sum
}

// read takes the nearest power of two off a number until nothing is left, so
// that long runs of ones take no longer than short ones.
func read(t *testing.T, n whole.Num) *big.Float {
	t.Helper()
	sum := newModel()
	for n.Sign() != 0 {
		high, sign := n.High(), int64(n.Sign())
		k := high
		if high < whole.Most && n.Cmp(whole.Int(3*sign).Shift(high-1)) == int(sign) {
			k++
		}
		sum.Add(sum, power(sign, k))
		n = n.Sub(whole.Int(sign).Shift(k))
		if n.Sign() != 0 && n.High() >= high {
			t.Fatalf("bit %d can't be taken off", high)
		}
	}
	return sum
}

// same asks all that can be asked of a number, and holds it against the model.
func same(t *testing.T, what string, n whole.Num, want *big.Float) {
	t.Helper()
	if !modelMay(want) {
		noneAt(t, what, n)
		return
	}
	float, _ := want.Float64()
	switch {
	case !n.OK():
		t.Fatalf("%s: none", what)
	case n.Sign() != want.Sign():
		t.Fatalf("%s: Sign %d, want %d", what, n.Sign(), want.Sign())
	case n.High() != modelHigh(want) || n.Low() != modelLow(want):
		t.Fatalf("%s: bits %d to %d, want %d to %d", what, n.High(), n.Low(), modelHigh(want), modelLow(want))
	case n.Float() != float:
		t.Fatalf("%s: Float %g, want %g", what, n.Float(), float)
	}
	if got := read(t, n); got.Cmp(want) != 0 {
		t.Fatalf("%s: another number by %g", what, newModel().Sub(got, want))
	}
}

// noneAt asks all that can be asked of none.
func noneAt(t *testing.T, what string, n whole.Num) {
	t.Helper()
	if n.OK() {
		t.Fatalf("%s: a number with bits %d to %d, want none", what, n.High(), n.Low())
	}
	if n.Sign() != 0 || n.High() != 0 || n.Low() != 0 || n.Float() != 0 {
		t.Fatalf("%s: none, but %d %d %d %g", what, n.Sign(), n.High(), n.Low(), n.Float())
	}
	if n.Cmp(n) != 0 || n.Cmp(whole.Int(1)) != 0 || whole.Int(1).Cmp(n) != 0 {
		t.Fatalf("%s: Cmp with none", what)
	}
}

func newRandom(seed uint64) *rand.Rand { return rand.New(rand.NewPCG(seed, 1)) }

// anyModel has runs of ones and of noughts of all lengths, so that much is
// carried, and ends on no word's end in particular.
func anyModel(r *rand.Rand, runs, reach int) *big.Float {
	n := new(big.Int)
	for range r.IntN(runs + 1) {
		ones := uint(r.IntN(150))
		n.Lsh(n, ones+uint(r.IntN(80)))
		n.Add(n, new(big.Int).Lsh(big.NewInt(1), ones))
		n.Sub(n, big.NewInt(int64(r.IntN(3))))
	}
	if r.IntN(2) == 0 {
		n.Neg(n)
	}
	f := newModel().SetInt(n)
	return f.SetMantExp(f, r.IntN(2*reach+1)-reach)
}

// anyFloat takes all floats with finite values, those near to 1 and those below
// the normal ones more often than others.
func anyFloat(r *rand.Rand) float64 {
	for {
		bits := r.Uint64()
		switch r.IntN(4) {
		case 0:
			bits = bits&^(0x7ff<<52) | uint64(1023-60+r.IntN(120))<<52
		case 1:
			bits &^= 0x7fe << 52
		case 2:
			bits &^= 1<<uint(r.IntN(53)) - 1
		}
		if x := math.Float64frombits(bits); !math.IsNaN(x) && !math.IsInf(x, 0) {
			return x
		}
	}
}

// edgeFloats are the floats where something begins or ends.
func edgeFloats() []float64 {
	l := []float64{
		0, math.Copysign(0, -1), 1, 1.5, 0.1, 3, 1 << 52, 1<<53 - 1, 1 << 53, 1 << 62, 1 << 63, 1 << 64,
		math.MaxFloat64, 0x1p1023, 0x1p971, 0x1p970, 0x1p-1022, 0x1p-1022 - 0x1p-1074,
		0x1p-1074, 0x3p-1074, 0x1p-1073, 0x1p-537, 0x1p-538, 0x1.8p-538,
	}
	for _, x := range l[2:] {
		l = append(l, -x)
	}
	return l
}
