package digits_test

import (
	"math"
	"strings"
	"testing"

	"trivet/api"
	"trivet/digits"
)

// floatsOf holds texts against what they are to be, none of it by the model,
// and then against the model, too.
func floatsOf(t *testing.T, texts map[string]float64) {
	t.Helper()
	for s, want := range texts {
		if x, err := digits.Float(s); !sameFloat(x, want) || err != api.OK {
			t.Errorf("Float(%q): %x, %v, want %x", s, x, err, want)
		}
		readAsked(t, s)
	}
}

func noFloatsOf(t *testing.T, texts []string) {
	t.Helper()
	for _, s := range texts {
		if x, err := digits.Float(s); !sameFloat(x, 0) || err != api.ErrRange {
			t.Errorf("Float(%q): %x, %v", s, x, err)
		}
		readAsked(t, s)
	}
}

// P8.1, at the upper end of the exponents.
func TestGreatTexts(t *testing.T) {
	floatsOf(t, map[string]float64{
		"1b1023": 0x1p1023, "-1b1023": -0x1p1023, "2b1022": 0x1p1023, "3b1022": 0x1.8p1023,
		"9007199254740991b971": math.MaxFloat64, "-9007199254740991b971": -math.MaxFloat64,
		"18014398509481982b970": math.MaxFloat64, "9223372036854774784b961": math.MaxFloat64,
		"4611686018427387904b961": 0x1p1023, "-4611686018427387904b961": -0x1p1023,
		"-9223372036854775808b960": -0x1p1023, "9007199254740990b971": math.MaxFloat64 - 0x1p971,
	})
	noFloatsOf(t, []string{
		"1b1024", "-1b1024", "2b1023", "3b1023", "9007199254740991b972", "9007199254740992b971",
		"9007199254740993b970", "9223372036854774784b962", "4611686018427387904b962",
		"-9223372036854775808b961", "1b1025", "1b2000", "1b2147483648", "1b4294967296", "1b1844674407370",
	})
}

// P8.1, at the lower end.
func TestSmallTexts(t *testing.T) {
	floatsOf(t, map[string]float64{
		"1b-1074": 0x1p-1074, "-1b-1074": -0x1p-1074, "2b-1075": 0x1p-1074, "4b-1076": 0x1p-1074,
		"3b-1074": 0x3p-1074, "6b-1075": 0x3p-1074, "12b-1076": 0x3p-1074,
		"4611686018427387904b-1136": 0x1p-1074, "-9223372036854775808b-1137": -0x1p-1074,
		"6917529027641081856b-1135": 0x3p-1074, "4503599627370495b-1074": 0x1p-1022 - 0x1p-1074,
		"4503599627370496b-1074": 0x1p-1022, "9007199254740991b-1074": 0x1.fffffffffffffp-1022,
		"9223372036854774784b-1084": 0x1.fffffffffffffp-1022,
	})
	noFloatsOf(t, []string{
		"1b-1075", "-1b-1075", "3b-1075", "2b-1076", "6b-1076", "4b-1077",
		"4611686018427387904b-1137", "-9223372036854775808b-1138", "6917529027641081856b-1136",
		"9007199254740991b-1075", "9223372036854774784b-1085", "1b-2000", "4611686018427387904b-2000",
	})
}

// P8.1: as many bits as a float has, and one more.
func TestLongNumbers(t *testing.T) {
	floatsOf(t, map[string]float64{
		"9007199254740991": 0x1p53 - 1, "9007199254740992": 0x1p53, "9007199254740994": 0x1p53 + 2,
		"-9007199254740991": 1 - 0x1p53, "-9007199254740992": -0x1p53, "-9007199254740994": -0x1p53 - 2,
		"9007199254740991b-53": 1 - 0x1p-53, "18014398509481982b-1": 0x1p53 - 1,
		"4611686018427387904": 0x1p62, "-9223372036854775808": -0x1p63, "-9223372036854775808b-63": -1,
		"9223372036854774784": 0x1.fffffffffffffp62, "-9223372036854774784": -0x1.fffffffffffffp62,
	})
	noFloatsOf(t, []string{
		"9007199254740993", "-9007199254740993", "9007199254740993b0", "9007199254740993b-53",
		"18014398509481983", "18014398509481983b-1", "9223372036854775806", "9223372036854775807",
		"-9223372036854775807", "9223372036854774783", "9223372036854775296", "9223372036854775807b-63",
	})
}

// P8.1: 0 is 0, and not -0, whatever it is taken times; all else is no float,
// where e lies at the ends of what can be read.
func TestFarExponents(t *testing.T) {
	far := []string{
		"9223372036854775807", "-9223372036854775808", "9223372036854775806", "-9223372036854775807",
		"9223372036854775744", "99999", "-99999", "4294967296", "-4294967296", "18446744073709551", "-18446744073709551",
	}
	for _, e := range far {
		floatsOf(t, map[string]float64{"0b" + e: 0})
		for _, n := range []string{
			"1", "-1", "2", "-2", "3", "64", "9007199254740993", "4611686018427387904",
			"9223372036854775807", "-9223372036854775807", "-9223372036854775808",
		} {
			noFloatsOf(t, []string{n + "b" + e})
		}
	}
	floatsOf(t, map[string]float64{"0": 0, "0b0": 0, "0b1": 0, "0b-1": 0, "0b1024": 0, "0b-1075": 0})
}

// P8.2, at the ends of the whole numbers; and one digit, or one more, beyond.
func TestEndsOfWholeNumbers(t *testing.T) {
	for s, want := range map[string]int{
		"0": 0, "9": 9, "10": 10, "-1": -1, "-10": -10, "100": 100,
		"9223372036854775807": math.MaxInt64, "9223372036854775806": math.MaxInt64 - 1, "9223372036854775800": math.MaxInt64 - 7,
		"-9223372036854775808": math.MinInt64, "-9223372036854775807": -math.MaxInt64, "999999999999999999": 999999999999999999,
	} {
		if n, err := digits.Int(s); n != want || err != api.OK {
			t.Errorf("Int(%q): %d, %v", s, n, err)
		}
		if digits.Show(want) != s {
			t.Errorf("Show(%d): %q", want, digits.Show(want))
		}
	}
	for _, s := range []string{
		"9223372036854775808", "9223372036854775809", "9223372036854775810", "9223372036854775817", "9999999999999999999",
		"-9223372036854775809", "-9223372036854775810", "-9223372036854775818", "-9999999999999999999",
		"10000000000000000000", "18446744073709551615", "18446744073709551616", "18446744073709551617", "-18446744073709551616",
		"92233720368547758070", "-92233720368547758080", "184467440737095516160", "340282366920938463463374607431768211456",
	} {
		wrongAsked(t, s)
		wrongAsked(t, s+"b0")
		wrongAsked(t, s+"b-9223372036854775808")
		wrongAsked(t, "1b"+s)
		wrongAsked(t, "0b"+s)
	}
}

// Texts of MaxNumber bytes, and of one more or less. None of so many bytes
// tells a number, since R7 reads no more than 20 of each part.
func TestLongTexts(t *testing.T) {
	for _, size := range []int{api.MaxNumber - 1, api.MaxNumber, api.MaxNumber + 1, 3 * api.MaxNumber, 1 << 20} {
		for _, piece := range []string{"0", "1", "9", "b", "-", " ", "\x00", "\xff", "1b", "0b0", "-1", "12345678901234567890"} {
			s := strings.Repeat(piece, size/len(piece)+1)[:size]
			wrongAsked(t, s)
			for _, good := range []string{"1", "-1", "0", "3b-2", "0b0"} {
				wrongAsked(t, (good + s)[:size])
				wrongAsked(t, (s + good)[len(good):])
			}
		}
	}
}
