package digits_test

import (
	"strings"
	"testing"

	"trivet/api"
)

// Signs, blanks, noughts ahead, other letters, bytes that are no text, more
// than one b: on either side of the b, and without one.
func TestWrongForms(t *testing.T) {
	for _, part := range []string{
		"", "-", "+", "--1", "-+1", "+1", "+0", "-0", "-00", "00", "000", "01", "-01", "-007", "0-", "1-", "1-1", "0-1",
		" ", " 1", "1 ", "1 1", "\t1", "1\n", "\r1", "- 1", "1\x00", "\x001", "1,000", "1_000", "1.0", "1.", ".5", "1e5", "1E5", "1p5",
		"0x10", "0b1b", "0o7", "a", "A", "f", "x", "1a", "a1", "1B", "B1", "inf", "Inf", "NaN", "nan", "-inf", "nil",
		"/", ":", "1/", "1:", "\xb1", "\xff", "1\xff", "\xc0\xb1", "\u0661", "\uff11", "\u22121", "\u20131", "1\u00a0", "\ufeff1",
		"b", "bb", "b1", "1b", "1b1b", "1b1b1", "1bb1", "b1b1", "-b1", "1b-", "1b1b-1",
	} {
		wrongAsked(t, part)
		for _, good := range []string{"0", "1", "-1", "9223372036854775807"} {
			wrongAsked(t, part+"b"+good)
			wrongAsked(t, good+"b"+part)
		}
		wrongAsked(t, part+"b"+part)
	}
}

// What is wrong goes ahead of what is out of range (R5).
func TestFormAheadOfRange(t *testing.T) {
	for _, s := range []string{"9007199254740993b", "9007199254740993b+1", "1b01024", "01b1024", "1b1024b", "1b-1075 ", "9223372036854775807b1b"} {
		wrongAsked(t, s)
	}
}

// All texts of up to five bytes, of those bytes that a number can have, and of
// some that it can't.
func TestAllShortTexts(t *testing.T) {
	const alphabet = "-019bB+ "
	seen := map[api.Errno]int{}
	var ask func(s string)
	ask = func(s string) {
		seen[readAsked(t, s)]++
		for i := range len(alphabet) {
			if len(s) < 5 {
				ask(s + alphabet[i:i+1])
			}
		}
	}
	ask("")
	if seen[api.OK] < 200 || seen[api.ErrForm] < 30000 {
		t.Error("of the kinds there are", seen)
	}
}

// Each byte put at each place of a good text, and into its stead; and each byte
// of it left out.
func TestEachByte(t *testing.T) {
	for _, s := range []string{"0", "7", "-3", "10", "3b-2", "-12b34", "0b0", "9007199254740991b971", "9223372036854775807"} {
		for i := range len(s) + 1 {
			for c := range 256 {
				one := string([]byte{byte(c)})
				readAsked(t, s[:i]+one+s[i:])
				if i < len(s) {
					readAsked(t, s[:i]+one+s[i+1:])
				}
			}
			if i < len(s) {
				readAsked(t, s[:i]+s[i+1:])
			}
		}
	}
	for c := range 256 {
		one := string([]byte{byte(c)})
		if digit := strings.Contains("0123456789", one); digit != (readAsked(t, one) == api.OK) {
			t.Errorf("%q alone is read: %v", one, !digit)
		}
	}
}
