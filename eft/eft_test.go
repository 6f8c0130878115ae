package eft_test

import (
	"math"
	"math/rand/v2"
	"testing"

	"trivet/eft"
)

type pair func(a, b float64) (float64, float64)

func splitFirst(a, _ float64) (float64, float64) { return eft.Split(a) }

func TestExamples(t *testing.T) {
	for _, e := range []struct {
		what       string
		call       pair
		a, b, x, y float64
	}{
		{"Sum", eft.Sum, 1, 0x1p-60, 1, 0x1p-60},
		{"Sum", eft.Sum, 1 << 53, 1, 1 << 53, 1},
		{"Sum", eft.Sum, 1<<53 + 2, 1, 1<<53 + 4, -1},
		{"Diff", eft.Diff, 1, 0x1p-60, 1, -0x1p-60},
		{"Sum", eft.Sum, 0x1p1001, 1, 0, 0},
		{"Split", splitFirst, 1<<27 + 1, 0, 1 << 27, 1},
		{"Split", splitFirst, 3, 0, 3, 0},
		{"Prod", eft.Prod, 1<<27 + 1, 1<<27 + 1, 1<<54 + 1<<28, 1},
		{"Prod", eft.Prod, 0x1p-451, 1, 0, 0},
	} {
		if x, y := e.call(e.a, e.b); x != e.x || y != e.y {
			t.Errorf("%s(%x, %x): %x, %x, want %x, %x", e.what, e.a, e.b, x, y, e.x, e.y)
		}
	}
}

func TestTame(t *testing.T) {
	above := math.Nextafter(0x1p1000, math.Inf(1))
	for _, x := range []float64{0, math.Copysign(0, -1), 5e-324, -5e-324, 1, 0x1p999, 0x1p1000, -0x1p1000} {
		if !eft.Tame(x) {
			t.Errorf("%x is tame", x)
		}
	}
	for _, x := range append(noFloats(), above, -above, 0x1p1001, math.MaxFloat64, -math.MaxFloat64) {
		if eft.Tame(x) {
			t.Errorf("%x is not tame", x)
		}
	}
	for _, x := range edgeFloats() {
		if eft.Tame(x) != modelTame(x) {
			t.Errorf("Tame(%x): %v", x, eft.Tame(x))
		}
	}
}

func TestSafe(t *testing.T) {
	above, below := math.Nextafter(0x1p450, math.Inf(1)), math.Nextafter(0x1p-450, 0)
	for _, x := range []float64{0, math.Copysign(0, -1), 1, -1, 0x1p-450, -0x1p-450, 0x1p450, -0x1p450} {
		if !eft.Safe(x) {
			t.Errorf("%x is safe", x)
		}
	}
	for _, x := range append(noFloats(), above, -above, below, -below, 5e-324, -5e-324, 0x1p-1022, 0x1p1000) {
		if eft.Safe(x) {
			t.Errorf("%x is not safe", x)
		}
	}
	for _, x := range edgeFloats() {
		if eft.Safe(x) != modelSafe(x) {
			t.Errorf("Safe(%x): %v", x, eft.Safe(x))
		}
	}
}

func TestNoFloatsAreRefused(t *testing.T) {
	for name, call := range map[string]pair{"Sum": eft.Sum, "Diff": eft.Diff, "Split": splitFirst, "Prod": eft.Prod} {
		for _, wrong := range noFloats() {
			for _, other := range append(noFloats(), 0, 1, -0x1p450) {
				if x, y := call(wrong, other); x != 0 || y != 0 {
					t.Errorf("%s(%x, %x): %x, %x", name, wrong, other, x, y)
				}
				if name == "Split" {
					continue
				}
				if x, y := call(other, wrong); x != 0 || y != 0 {
					t.Errorf("%s(%x, %x): %x, %x", name, other, wrong, x, y)
				}
			}
		}
	}
}

func TestEdges(t *testing.T) {
	edges := edgeFloats()
	for _, a := range edges {
		inHalves(t, a)
		for _, b := range edges {
			tellAll(t, a, b)
			turnedAbout(t, a, b)
			unrounded(t, a, b)
		}
	}
}

func TestTheLeastFloats(t *testing.T) {
	least := math.SmallestNonzeroFloat64
	for i := range 40 {
		for j := range 40 {
			tellAll(t, float64(i)*least, float64(j)*least)
		}
		tellAll(t, float64(i)*least, 0x1p-1022)
		tellAll(t, float64(i)*least, 1)
		tellAll(t, -0x1p1000, float64(i)*least)
	}
}

// Of two floats as near, the one whose last bit is 0 is told.
func TestTies(t *testing.T) {
	for _, e := range []struct {
		what       string
		call       pair
		a, b, x, y float64
	}{
		{"Sum", eft.Sum, 1<<53 - 1, 2, 1 << 53, 1},
		{"Sum", eft.Sum, 1<<53 + 4, 1, 1<<53 + 4, 1},
		{"Sum", eft.Sum, -(1<<53 + 2), -1, -(1<<53 + 4), 1},
		{"Diff", eft.Diff, 1<<53 + 2, 1, 1 << 53, 1},
		{"Diff", eft.Diff, 1<<53 + 6, 1, 1<<53 + 4, 1},
		{"Prod", eft.Prod, 3, 1<<52 + 1, 3<<52 + 4, -1},
		{"Prod", eft.Prod, 3, 1<<52 + 3, 3<<52 + 8, 1},
		{"Prod", eft.Prod, -3, 1<<52 + 1, -(3<<52 + 4), 1},
		{"Prod", eft.Prod, 3 * 0x1p-450, (1<<52 + 1) * 0x1p-480, (3<<52 + 4) * 0x1p-930, -0x1p-930},
	} {
		if x, y := e.call(e.a, e.b); x != e.x || y != e.y {
			t.Errorf("%s(%x, %x): %x, %x, want %x, %x", e.what, e.a, e.b, x, y, e.x, e.y)
		}
		tellAll(t, e.a, e.b)
		turnedAbout(t, e.a, e.b)
	}
}

func TestPartsThatCancel(t *testing.T) {
	r := rand.New(rand.NewPCG(2, 1))
	for range 2000 {
		a := anyFloat(r, -1000, 999)
		near := math.Nextafter(a, 0)
		for _, b := range []float64{a, near, a / 2, a * (1 + 0x1p-40), near / 2} {
			tellAll(t, a, -b)
			tellAll(t, b, a)
		}
		if x, y := eft.Sum(a, -a); x != 0 || y != 0 {
			t.Errorf("Sum(%x, %x): %x, %x", a, -a, x, y)
		}
	}
}

// Floats whose last bits are all set round upwards in Split at each length.
func TestSplitOfSetBits(t *testing.T) {
	for high := range 53 {
		for low := range high + 1 {
			run := float64(uint64(1)<<(high+1) - uint64(1)<<low)
			for _, a := range []float64{run, 1<<52 + run, -run, run * 0x1p-450, run * 0x1p397, -run * 0x1p-200} {
				inHalves(t, a)
				tellAll(t, a, a)
				unrounded(t, a, run)
			}
		}
	}
}

func TestManySums(t *testing.T) {
	r := rand.New(rand.NewPCG(2, 2))
	for range 20000 {
		tellAll(t, anyFloat(r, -1022, 999), anyFloat(r, -1022, 999))
		near := r.IntN(1800) - 900
		a, b := anyFloat(r, near-60, near+60), anyFloat(r, near-60, near+60)
		tellAll(t, a, b)
		turnedAbout(t, a, b)
	}
}

func TestManyProducts(t *testing.T) {
	r := rand.New(rand.NewPCG(2, 3))
	for range 20000 {
		a, b := anyFloat(r, -450, 449), anyFloat(r, -450, 449)
		inHalves(t, a)
		tellAll(t, a, b)
		turnedAbout(t, a, b)
		unrounded(t, a, b)
	}
}
