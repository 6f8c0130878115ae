package digits_test

import (
	"math"
	"math/rand/v2"
	"testing"

	"trivet/api"
	"trivet/digits"
)

func TestFirstExample(t *testing.T) {
	for _, x := range []struct {
		x    float64
		want string
	}{
		{0.75, "3b-2"}, {5, "5"}, {-0.5, "-1b-1"}, {0x1p53, "1b53"}, {0x1p53 - 1, "9007199254740991"},
		{0x1p-1074, "1b-1074"}, {minusZero(), "0"},
	} {
		if s := digits.Text(x.x); s != x.want {
			t.Errorf("Text(%x): %q, want %q", x.x, s, x.want)
		}
	}
}

func TestSecondExample(t *testing.T) {
	for s, want := range map[string]float64{"3b-2": 0.75, "12b-4": 0.75, "0b99999": 0, "2b-1075": 0x1p-1074} {
		if x, err := digits.Float(s); !sameFloat(x, want) || err != api.OK {
			t.Errorf("Float(%q): %x, %v, want %x", s, x, err, want)
		}
	}
	for _, s := range []string{"9223372036854775807", "9223372036854775807b0", "1b1024", "1b-1075"} {
		if x, err := digits.Float(s); !sameFloat(x, 0) || err != api.ErrRange {
			t.Errorf("Float(%q): %x, %v", s, x, err)
		}
	}
}

func TestThirdExample(t *testing.T) {
	for _, s := range []string{"b", "1b", "b1", "1.5", "1e5", "+1", "01", "1b+1", "1b-0", "-0", "1B1", ""} {
		if x, err := digits.Float(s); !sameFloat(x, 0) || err != api.ErrForm {
			t.Errorf("Float(%q): %x, %v", s, x, err)
		}
		wrongAsked(t, s)
	}
	for _, s := range []string{"007", "+1", "-0", "9223372036854775808"} {
		if n, err := digits.Int(s); n != 0 || err != api.ErrForm {
			t.Errorf("Int(%q): %d, %v", s, n, err)
		}
		wrongAsked(t, s)
	}
}

// P8.1, on texts that floats are just, and on as many that none is.
func TestDrawnTexts(t *testing.T) {
	r := rand.New(rand.NewPCG(8, 1))
	seen := map[api.Errno]int{}
	for range 50000 {
		seen[readAsked(t, written(drawnInt(r), drawnExponent(r)))]++
		seen[readAsked(t, digits.Show(drawnInt(r)))]++
	}
	if seen[api.OK] < 10000 || seen[api.ErrRange] < 10000 || seen[api.ErrForm] != 0 {
		t.Error("of the kinds there are", seen)
	}
}

// P8.1, on floats of each exponent.
func TestFloatsOfAllExponents(t *testing.T) {
	r := rand.New(rand.NewPCG(8, 2))
	for exponent := range uint64(0x7ff) {
		for _, fraction := range []uint64{0, 1, 2, 1 << 51, 1<<52 - 1, 1<<52 - 2, r.Uint64N(1 << 52), r.Uint64N(1 << 52)} {
			x := math.Float64frombits(exponent<<52 | fraction)
			textAsked(t, x)
			textAsked(t, -x)
		}
	}
}

func TestDrawnFloats(t *testing.T) {
	r := rand.New(rand.NewPCG(8, 3))
	for range 50000 {
		textAsked(t, drawnFloat(r))
	}
}

// P8.1: whole numbers around 2^53, and around all other powers of two; halves
// beside them.
func TestWholeFloats(t *testing.T) {
	for k := range 64 {
		for d := -40; d <= 40; d++ {
			x := math.Ldexp(1, k) + float64(d)/4
			textAsked(t, x)
			textAsked(t, -x)
		}
	}
	for d := -1000; d <= 1000; d++ {
		for _, n := range []int{1<<53 + d, -1<<53 + d, d} {
			textAsked(t, float64(n))
			readAsked(t, digits.Show(n))
		}
	}
}

func TestNamedFloats(t *testing.T) {
	for _, x := range []struct {
		x    float64
		want string
	}{
		{0, "0"}, {1, "1"}, {-1, "-1"}, {-5, "-5"}, {4, "4"}, {1.5, "3b-1"}, {-0x1p-1074, "-1b-1074"},
		{0x1p53 - 1, "9007199254740991"}, {1 - 0x1p53, "-9007199254740991"}, {0x1p53 - 2, "9007199254740990"},
		{0x1p51 + 0.5, "4503599627370497b-1"}, {-0x1p51 - 0.5, "-4503599627370497b-1"},
		{-0x1p53, "-1b53"}, {0x1p53 + 2, "4503599627370497b1"}, {-0x1p53 - 2, "-4503599627370497b1"},
		{0x1p62, "1b62"}, {-0x1p63, "-1b63"}, {0x1p1023, "1b1023"},
		{math.MaxFloat64, "9007199254740991b971"}, {-math.MaxFloat64, "-9007199254740991b971"},
		{0x1p-1022, "1b-1022"}, {0x1p-1022 - 0x1p-1074, "4503599627370495b-1074"}, {0x3p-1074, "3b-1074"},
		{0.1, "3602879701896397b-55"}, {math.Inf(1), ""}, {math.Inf(-1), ""}, {math.NaN(), ""},
		{math.Float64frombits(0xfff8000000000123), ""}, {math.Float64frombits(0x7ff0000000000001), ""},
	} {
		if s := digits.Text(x.x); s != x.want {
			t.Errorf("Text(%x): %q, want %q", x.x, s, x.want)
		}
	}
}
