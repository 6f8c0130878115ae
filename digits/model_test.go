package digits_test

import (
	"math"
	"math/big"
	"math/rand/v2"
	"regexp"
	"strings"
	"testing"

	"trivet/api"
	"trivet/digits"
)

func minusZero() float64 { return math.Copysign(0, -1) }

func power(k uint) *big.Int { return new(big.Int).Lsh(big.NewInt(1), k) }

var wholeForm = regexp.MustCompile(`\A(0|-?[1-9][0-9]*)\z`)

// modelInt reads by an expression, and then in numbers of any size; without
// noughts ahead more than 40 digits are too many.
func modelInt(s string) (*big.Int, bool) {
	if len(s) > 40 || !wholeForm.MatchString(s) {
		return nil, false
	}
	n, ok := new(big.Int).SetString(s, 10)
	return n, ok && n.IsInt64()
}

// modelFloat reckons n times 2^e whole, and holds the nearest float against
// that. Of an n of at most 64 bits none is just that, where e lies beyond 2000.
func modelFloat(s string) (float64, api.Errno) {
	if len(s) > 400 {
		return 0, api.ErrForm
	}
	parts := strings.Split(s, "b")
	if len(parts) > 2 {
		return 0, api.ErrForm
	}
	n, okN := modelInt(parts[0])
	e, okE := modelInt(append(parts, "0")[1])
	switch {
	case !okN || !okE:
		return 0, api.ErrForm
	case n.Sign() == 0:
		return 0, api.OK
	case e.CmpAbs(big.NewInt(2000)) > 0:
		return 0, api.ErrRange
	}
	exact := new(big.Rat).SetInt(n)
	scale := new(big.Rat).SetInt(power(uint(new(big.Int).Abs(e).Int64())))
	if e.Sign() < 0 {
		scale.Inv(scale)
	}
	x, _ := exact.Mul(exact, scale).Float64()
	if told := new(big.Rat).SetFloat64(x); told == nil || told.Cmp(exact) != 0 {
		return 0, api.ErrRange
	}
	return x, api.OK
}

// modelText halves, in numbers of any size, as long as that leaves nothing over.
func modelText(x float64) string {
	exact := new(big.Rat).SetFloat64(x)
	if exact == nil {
		return ""
	}
	n := new(big.Int).Set(exact.Num())
	if exact.IsInt() && n.CmpAbs(power(53)) < 0 {
		return n.String()
	}
	e := 1 - exact.Denom().BitLen()
	for n.Bit(0) == 0 {
		n.Rsh(n, 1)
		e++
	}
	return n.String() + "b" + big.NewInt(int64(e)).String()
}

// sameFloat tells 0 and -0 apart.
func sameFloat(x, y float64) bool { return math.Float64bits(x) == math.Float64bits(y) }

// readAsked holds a text, as a float's and as a whole number's, against the
// model, and tells what it is as a float's.
func readAsked(t *testing.T, s string) api.Errno {
	t.Helper()
	want, wantErr := modelFloat(s)
	if x, err := digits.Float(s); !sameFloat(x, want) || err != wantErr {
		t.Fatalf("Float(%q): %x, %v, want %x, %v", s, x, err, want, wantErr)
	}
	wantInt, wantIntErr := 0, api.ErrForm
	if n, ok := modelInt(s); ok {
		wantInt, wantIntErr = int(n.Int64()), api.OK
	}
	if n, err := digits.Int(s); n != wantInt || err != wantIntErr {
		t.Fatalf("Int(%q): %d, %v, want %d, %v", s, n, err, wantInt, wantIntErr)
	}
	return wantErr
}

// wrongAsked: neither a float's text nor a whole number's.
func wrongAsked(t *testing.T, s string) {
	t.Helper()
	if err := readAsked(t, s); err != api.ErrForm {
		t.Fatalf("the model reads %q: %v", s, err)
	}
}

// textAsked holds a float's text against the model, and reads it again (P8.3).
func textAsked(t *testing.T, x float64) {
	t.Helper()
	s, want := digits.Text(x), modelText(x)
	if s != want {
		t.Fatalf("Text(%x): %q, want %q", x, s, want)
	}
	if x == 0 {
		x = 0 // -0 is told as 0
	}
	if back, err := digits.Float(s); err != api.OK || !sameFloat(back, x) {
		t.Fatalf("Float of Text(%x), %q: %x, %v", x, s, back, err)
	}
}

// showAsked holds a whole number's text against the model, and reads it again.
func showAsked(t *testing.T, n int) {
	t.Helper()
	s, want := digits.Show(n), big.NewInt(int64(n)).String()
	if s != want {
		t.Fatalf("Show(%d): %q, want %q", n, s, want)
	}
	if back, err := digits.Int(s); back != n || err != api.OK {
		t.Fatalf("Int of Show(%d): %d, %v", n, back, err)
	}
}

// written is n b e, written by the model.
func written(n, e int) string {
	return big.NewInt(int64(n)).String() + "b" + big.NewInt(int64(e)).String()
}

// drawnInt has any length, and any number of noughts at its end.
func drawnInt(r *rand.Rand) int {
	n := int(r.Uint64()) >> r.IntN(64)
	if r.IntN(2) == 0 {
		n = n >> r.IntN(64) << r.IntN(64)
	}
	return n
}

// drawnExponent lies at either end of what a float's text has as often as
// anywhere else.
func drawnExponent(r *rand.Rand) int {
	switch r.IntN(4) {
	case 0:
		return -1074 - 64 + r.IntN(130)
	case 1:
		return 1024 - 64 + r.IntN(70)
	case 2:
		return drawnInt(r)
	}
	return r.IntN(2100) - 1075
}

// drawnFloat is finite, and of any exponent.
func drawnFloat(r *rand.Rand) float64 {
	bits := r.Uint64() &^ (0x7ff << 52)
	if r.IntN(2) == 0 {
		bits = bits >> r.IntN(53) << r.IntN(53) &^ (0x7ff << 52)
	}
	return math.Float64frombits(bits | r.Uint64N(0x7ff)<<52 | r.Uint64N(2)<<63)
}
