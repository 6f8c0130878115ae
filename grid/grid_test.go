package grid_test

import (
	"math"
	"math/big"
	"math/rand/v2"
	"testing"

	"trivet/api"
	"trivet/grid"
)

// modelStands reckons in whole steps of 2^-100, not in floats.
func modelStands(x float64) bool {
	exact := new(big.Rat).SetFloat64(x)
	if exact == nil {
		return false
	}
	reach := new(big.Rat).SetInt(new(big.Int).Lsh(big.NewInt(1), 100))
	small := new(big.Rat).Abs(exact).Cmp(reach) <= 0
	return small && exact.Mul(exact, reach).IsInt()
}

// asked puts x at each place among points that may be.
func asked(t *testing.T, x float64) {
	t.Helper()
	want, right := modelStands(x), api.Point{X: 1, Y: -2}
	for _, wrong := range []api.Point{{X: x, Y: 1}, {X: 1, Y: x}, {X: x, Y: x}} {
		for _, list := range [][]api.Point{{wrong}, {wrong, right}, {right, wrong}, {right, wrong, right}, {right, right, wrong}} {
			if grid.Has(list...) != want {
				t.Fatalf("Has(%x): %v", list, !want)
			}
		}
	}
}

func TestNamedCoordinates(t *testing.T) {
	for x, want := range map[float64]bool{
		0: true, math.Copysign(0, -1): true, 1: true, 0.1: true, math.Pi: true,
		0x1p100: true, 0x1.fffffffffffffp99: true, 0x1.0000000000001p100: false, 0x1p101: false,
		0x1p-100: true, 0x1p-101: false, 0x1.8p-100: false, 0x1.8p-99: true, 0x1.0000000000001p-100: false,
		0x1.0000000000001p-48: true, 0x1.0000000000001p-49: false, 0x1.0000000000002p-49: true,
		0x1p-1022: false, math.SmallestNonzeroFloat64: false, math.MaxFloat64: false,
	} {
		for _, x := range []float64{x, -x} {
			if modelStands(x) != want {
				t.Errorf("the model of %x: %v", x, !want)
			}
			asked(t, x)
		}
	}
	for _, x := range []float64{math.Inf(1), math.Inf(-1), math.NaN()} {
		asked(t, x)
	}
	if !grid.Has() {
		t.Error("all of no points may be")
	}
}

func TestManyCoordinates(t *testing.T) {
	r := rand.New(rand.NewPCG(4, 1))
	for range 3000 {
		asked(t, math.Float64frombits(r.Uint64()))
		bits := 1 + r.IntN(53)
		asked(t, math.Ldexp(float64(r.Uint64N(1<<bits)), r.IntN(220)-110-bits))
	}
}
