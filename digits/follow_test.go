package digits_test

import (
	"math"
	"math/rand/v2"
	"strings"
	"testing"

	"trivet/api"
	"trivet/digits"
)

// P8.2 and P8.3.
func TestDrawnInts(t *testing.T) {
	r := rand.New(rand.NewPCG(8, 4))
	for range 50000 {
		showAsked(t, drawnInt(r))
		showAsked(t, int(r.Uint64()))
	}
	for k := range 64 {
		for d := -3; d <= 3; d++ {
			showAsked(t, 1<<k+d)
			showAsked(t, -1<<k+d)
		}
	}
	for tens := 1; tens <= math.MaxInt64/10; tens *= 10 {
		for d := -2; d <= 2; d++ {
			showAsked(t, tens+d)
			showAsked(t, -tens+d)
			showAsked(t, 9*tens+d)
		}
	}
}

// P8.3: of floats near to one another, and of those that are one another with
// other exponents, or turned about, no two have one text; 0 and -0 have.
func TestUnlikeTexts(t *testing.T) {
	r := rand.New(rand.NewPCG(8, 5))
	floats := map[string]float64{}
	ask := func(x float64) {
		if math.IsInf(x, 0) {
			return
		}
		s := digits.Text(x)
		if other, seen := floats[s]; seen && other != x {
			t.Fatalf("%x and %x have the text %q", x, other, s)
		}
		floats[s] = x
	}
	for range 20000 {
		x := drawnFloat(r)
		for _, near := range []float64{x, math.Nextafter(x, math.Inf(1)), math.Nextafter(x, math.Inf(-1)), 2 * x, x / 2} {
			ask(near)
			ask(-near)
		}
	}
	for n := range 1000 {
		ask(float64(n))
		ask(float64(-n))
		ask(float64(1<<53 + n))
		ask(float64(1<<53 - n))
	}
	if digits.Text(0) != digits.Text(minusZero()) {
		t.Error("0 and -0 have unlike texts")
	}
}

// alikeAsked: two texts that tell the same.
func alikeAsked(t *testing.T, s, other string) api.Errno {
	t.Helper()
	x, err := digits.Float(s)
	y, otherErr := digits.Float(other)
	if !sameFloat(x, y) || err != otherErr {
		t.Fatalf("%q tells %x, %v, but %q %x, %v", s, x, err, other, y, otherErr)
	}
	readAsked(t, s)
	return err
}

// P8.4: halved as often as it goes, and n b 0 is n.
func TestHalved(t *testing.T) {
	r := rand.New(rand.NewPCG(8, 6))
	seen := map[api.Errno]int{}
	halve := func(n, e int) {
		for n != 0 && n%2 == 0 && e < math.MaxInt64 {
			seen[alikeAsked(t, written(n, e), written(n/2, e+1))]++
			n, e = n/2, e+1
		}
	}
	for range 10000 {
		n := drawnInt(r)
		halve(n, drawnExponent(r))
		alikeAsked(t, digits.Show(n), written(n, 0))
	}
	for _, n := range []int{1 << 62, -1 << 63, 3 << 61, 1<<53 - 1<<10, math.MaxInt64 - 1<<10 + 1} {
		for _, e := range []int{-1137, -1136, -1135, -1074, 0, 960, 961, 962, 1022, 1023, math.MinInt64, math.MaxInt64 - 62, math.MaxInt64 - 1} {
			halve(n, e)
		}
	}
	for _, e := range []int{math.MinInt64, -1076, -1, 0, 1, 1024, math.MaxInt64 - 1} {
		alikeAsked(t, written(0, e), written(0, e+1))
	}
	if seen[api.OK] < 10000 || seen[api.ErrRange] < 10000 || seen[api.ErrForm] != 0 {
		t.Error("of the kinds there are", seen)
	}
}

// turnedAsked: a text and the one with a - ahead.
func turnedAsked(t *testing.T, s string) api.Errno {
	t.Helper()
	x, err := digits.Float(s)
	y, turnedErr := digits.Float("-" + s)
	if x != -y || err != turnedErr {
		t.Fatalf("%q tells %x, %v, but with a - ahead %x, %v", s, x, err, y, turnedErr)
	}
	readAsked(t, "-"+s)
	return err
}

// P8.4.
func TestTurnedAbout(t *testing.T) {
	r := rand.New(rand.NewPCG(8, 7))
	seen := map[api.Errno]int{}
	for range 20000 {
		n := drawnInt(r)
		if n == 0 || n == math.MinInt64 {
			continue
		}
		s := strings.TrimPrefix(written(n, drawnExponent(r)), "-")
		seen[turnedAsked(t, s)]++
		if whole, err := digits.Int(digits.Show(-n)); whole != -n || err != api.OK {
			t.Fatalf("Int of Show(%d): %d, %v", -n, whole, err)
		}
		x := math.Abs(drawnFloat(r))
		if s := digits.Text(x); x != 0 && digits.Text(-x) != "-"+s {
			t.Fatalf("Text(%x): %q, but turned about %q", x, s, digits.Text(-x))
		}
	}
	if seen[api.OK] < 5000 || seen[api.ErrRange] < 5000 || seen[api.ErrForm] != 0 {
		t.Error("of the kinds there are", seen)
	}
	for _, s := range []string{"0", "0b0", "0b5", "0b-5"} {
		wrongAsked(t, "-"+s)
	}
}
