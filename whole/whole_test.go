package whole_test

import (
	"math"
	"math/big"
	"testing"

	"trivet/whole"
)

const most = whole.Most

var (
	none  = whole.Of(math.Inf(1))
	one   = whole.Int(1)
	two   = whole.Int(2)
	great = one.Shift(most)  // the greatest power of two that may be
	tiny  = one.Shift(-most) // the least one
)

func TestMost(t *testing.T) {
	if whole.Most != 65536 {
		t.Error("Most:", whole.Most)
	}
}

// P1.1

func TestZero(t *testing.T) {
	var zero whole.Num
	for _, z := range []whole.Num{
		zero, whole.Int(0), whole.Of(0), whole.Of(math.Copysign(0, -1)),
		zero.Neg(), zero.Add(zero), zero.Sub(zero), zero.Mul(zero), zero.Mul(whole.Int(-3)),
		one.Sub(one), one.Add(whole.Int(-1)), whole.Of(0.1).Sub(whole.Of(0.1)), great.Sub(great), tiny.Sub(tiny),
	} {
		same(t, "0", z, newModel())
		if math.Signbit(z.Float()) || z.Cmp(zero) != 0 || zero.Cmp(z) != 0 {
			t.Error("0 has a sign:", z.Float(), z.Cmp(zero))
		}
		same(t, "0 and 7", z.Add(whole.Int(7)), newModel().SetInt64(7))
		same(t, "7 and 0", whole.Int(7).Add(z), newModel().SetInt64(7))
		same(t, "7 less 0", whole.Int(7).Sub(z), newModel().SetInt64(7))
		same(t, "0 less 7", z.Sub(whole.Int(7)), newModel().SetInt64(-7))
		same(t, "0 less -7", z.Sub(whole.Int(-7)), newModel().SetInt64(7))
	}
}

func TestOf(t *testing.T) {
	for _, x := range edgeFloats() {
		same(t, "Of", whole.Of(x), newModel().SetFloat64(x))
	}
	for _, x := range []float64{math.Inf(1), math.Inf(-1), math.NaN(), math.Float64frombits(0xfff0000000000001)} {
		noneAt(t, "Of", whole.Of(x))
	}
}

func TestInt(t *testing.T) {
	for _, n := range []int64{0, 1, -1, 2, 12, -12, 1 << 32, 1<<53 + 1, 1 << 62, math.MaxInt64, math.MaxInt64 - 1, -math.MaxInt64, math.MinInt64} {
		same(t, "Int", whole.Int(n), newModel().SetInt64(n))
	}
}

// held holds what is done with two numbers against the model.
func held(t *testing.T, f, g *big.Float) {
	t.Helper()
	a, b := write(f), write(g)
	same(t, "Add", a.Add(b), newModel().Add(f, g))
	same(t, "Sub", a.Sub(b), newModel().Sub(f, g))
	same(t, "Mul", a.Mul(b), newModel().Mul(f, g))
	same(t, "Neg", a.Neg(), newModel().Neg(f))
	if a.Cmp(b) != f.Cmp(g) {
		t.Fatal("Cmp:", a.Cmp(b), f.Cmp(g))
	}
}

func TestReckon(t *testing.T) {
	r := newRandom(1)
	for range 3000 {
		f, g := anyModel(r, 8, 300), anyModel(r, 8, 300)
		held(t, f, g)
		held(t, f, f)
		held(t, f, newModel().Neg(f))
		held(t, f, newModel().SetMantExp(f, r.IntN(200)-100))
		k := r.IntN(4000) - 2000
		same(t, "Shift", write(f).Shift(k), newModel().SetMantExp(f, k))
	}
}

func TestReckonNearMost(t *testing.T) {
	r := newRandom(2)
	for range 400 {
		f, g := anyModel(r, 2, 20), anyModel(r, 2, 20)
		for _, k := range []int{most - 200, 30 - most} {
			high, low := newModel().SetMantExp(f, k), newModel().SetMantExp(g, k)
			if !modelMay(high) || !modelMay(low) {
				continue
			}
			held(t, high, low)
			held(t, high, g)
			held(t, high, newModel().SetMantExp(g, -k/2))
			held(t, newModel().SetMantExp(f, k/2), newModel().SetMantExp(g, k/2))
		}
	}
}

// ones is a number all of whose bits, from high down to low, are set.
func ones(high, low int) whole.Num { return one.Shift(high).Sub(one.Shift(low)).Add(one.Shift(high)) }

func TestLongNumbers(t *testing.T) {
	all := ones(most, -most)
	if !all.OK() || all.High() != most || all.Low() != -most {
		t.Fatal("all bits:", all.OK(), all.High(), all.Low())
	}
	if n := all.Sub(great); n.Cmp(ones(most-1, -most)) != 0 || n.High() != most-1 {
		t.Error("the highest bit is not taken off:", n.High())
	}
	if n := all.Sub(tiny); n.Cmp(ones(most, 1-most)) != 0 || n.Low() != 1-most {
		t.Error("the lowest bit is not taken off:", n.Low())
	}
	noneAt(t, "one more", all.Add(tiny))
	same(t, "carried to the end", ones(most-1, -most).Add(tiny), power(1, most))
	half := ones(most/2-1, -most/2) // (2^32768 - 2^-32768), squared
	want := great.Sub(two).Add(tiny)
	if n := half.Mul(half); !n.OK() || n.Cmp(want) != 0 || n.Low() != -most || n.High() != most-1 {
		t.Error("a long product:", n.OK(), n.High(), n.Low())
	}
}

func TestShiftOfZero(t *testing.T) {
	for _, k := range []int{0, 1, -1, most, most + 1, -most, -most - 1, 1 << 62, -1 << 62, math.MaxInt, math.MinInt} {
		same(t, "0 shifted", whole.Int(0).Shift(k), newModel())
		noneAt(t, "none shifted", none.Shift(k))
	}
}

func TestShiftToMost(t *testing.T) {
	for _, k := range []int{
		0, 1, -1, 63, 64, 65, most - 2, most - 1, most, most + 1, 2*most - 1, 2 * most, 2*most + 1, 1 << 40, 1 << 62,
		math.MaxInt - most, math.MaxInt - 1, math.MaxInt,
	} {
		for _, k := range []int{k, -k} {
			shifted(t, k)
		}
	}
	shifted(t, math.MinInt)
	shifted(t, math.MinInt+most)
}

func shifted(t *testing.T, k int) {
	t.Helper()
	for _, from := range []int{0, 3, most - 2, most - 1, most, -3, 2 - most, 1 - most, -most} {
		for _, n := range []int64{1, -1, 3, -5} {
			f := power(n, from)
			a := write(f)
			if !modelMay(f) {
				continue
			}
			if k > 3*most || k < -3*most { // the model's powers do not reach so far
				noneAt(t, "Shift", a.Shift(k))
			} else {
				same(t, "Shift", a.Shift(k), newModel().SetMantExp(f, k))
			}
		}
	}
}

func TestAddToMost(t *testing.T) {
	same(t, "the greatest sum", great.Add(great.Sub(one)), newModel().Sub(power(1, most+1), power(1, 0)))
	same(t, "the least sum", great.Neg().Add(one.Sub(great)), newModel().Sub(power(1, 0), power(1, most+1)))
	noneAt(t, "one past it", great.Add(great))
	noneAt(t, "one past it, below 0", great.Neg().Add(great.Neg()))
	noneAt(t, "one past it by carrying", great.Add(great.Sub(one)).Add(one))
	same(t, "none but for what is taken off", great.Add(great.Neg()), newModel())
	same(t, "the lowest bits", tiny.Add(tiny), power(1, 1-most))
	same(t, "the highest and the lowest bit", great.Add(tiny), newModel().Add(power(1, most), power(1, -most)))
}

func TestSubToMost(t *testing.T) {
	same(t, "the greatest difference", great.Sub(one.Sub(great)), newModel().Sub(power(1, most+1), power(1, 0)))
	same(t, "the least difference", great.Neg().Sub(great.Sub(one)), newModel().Sub(power(1, 0), power(1, most+1)))
	noneAt(t, "one past it", great.Sub(great.Neg()))
	noneAt(t, "one past it, below 0", great.Neg().Sub(great))
	noneAt(t, "one past it by carrying", great.Sub(one.Sub(great)).Sub(whole.Int(-1)))
	same(t, "the lowest bit", tiny.Neg().Sub(tiny), power(-1, 1-most))
	same(t, "the highest less the lowest bit", great.Sub(tiny), newModel().Sub(power(1, most), power(1, -most)))
	same(t, "and about", tiny.Sub(great), newModel().Sub(power(1, -most), power(1, most)))
}

func TestMulToMost(t *testing.T) {
	for _, from := range []int{0, 1, 64, most / 2, most - 1, most} {
		for _, by := range []int{-2, -1, 0, 1, 2} {
			for _, n := range []int64{1, -1, 3} { // 3 times 3 has a bit more than its factors' places say
				for _, f := range []*big.Float{power(n, from), power(n, -from)} {
					g := power(n, most-from+by)
					if f.MantExp(nil) < 0 || from == 0 {
						g = power(n, from-most+by)
					}
					if modelMay(f) && modelMay(g) {
						same(t, "Mul", write(f).Mul(write(g)), newModel().Mul(f, g))
						same(t, "Mul about", write(g).Mul(write(f)), newModel().Mul(f, g))
					}
				}
			}
		}
	}
	same(t, "great times tiny", great.Mul(tiny), power(1, 0))
	noneAt(t, "great times 2", great.Mul(two))
	noneAt(t, "tiny times a half", tiny.Mul(whole.Of(-0.5)))
	noneAt(t, "great, squared", great.Mul(great))
	noneAt(t, "tiny, squared", tiny.Mul(tiny))
	same(t, "great times 0", great.Mul(whole.Int(0)), newModel())
	same(t, "tiny times 0", whole.Int(0).Mul(tiny), newModel())
}

func TestNoneStays(t *testing.T) {
	made := []whole.Num{
		none, whole.Of(math.NaN()), whole.Of(math.Inf(-1)), great.Shift(1), tiny.Shift(-1), one.Shift(math.MaxInt),
		great.Add(great), great.Neg().Sub(great), great.Mul(two), tiny.Mul(tiny),
	}
	for _, n := range made {
		noneAt(t, "none", n)
		noneAt(t, "Neg", n.Neg())
		noneAt(t, "Shift", n.Shift(0))
		noneAt(t, "Shift back", n.Shift(-1))
		for _, b := range []whole.Num{{}, one, whole.Int(-5), great, tiny, none} {
			noneAt(t, "Add", n.Add(b))
			noneAt(t, "Add to", b.Add(n))
			noneAt(t, "Sub", n.Sub(b))
			noneAt(t, "Sub from", b.Sub(n))
			noneAt(t, "Mul", n.Mul(b))
			noneAt(t, "Mul by", b.Mul(n))
			if n.Cmp(b) != 0 || b.Cmp(n) != 0 {
				t.Error("Cmp with none:", n.Cmp(b), b.Cmp(n))
			}
		}
	}
}

func TestOK(t *testing.T) {
	for _, n := range []whole.Num{{}, one, one.Neg(), great, great.Neg(), tiny, tiny.Neg(), whole.Of(math.MaxFloat64)} {
		if !n.OK() {
			t.Error("a number is none:", n.Float())
		}
	}
}

// P1.2

func TestOrder(t *testing.T) {
	rising := []whole.Num{
		great.Neg(), great.Neg().Add(tiny), one.Sub(great), one.Shift(64).Neg(), whole.Int(math.MinInt64), whole.Int(-3), whole.Int(-2),
		tiny.Sub(one), tiny.Neg(), {}, tiny, tiny.Add(tiny), whole.Of(0x1p-1074), one.Sub(tiny), one, one.Add(tiny),
		two, whole.Int(3), whole.Int(math.MaxInt64), one.Shift(64).Sub(tiny), one.Shift(64), one.Shift(64).Add(one), great.Sub(tiny), great, great.Add(tiny),
	}
	for i, a := range rising {
		sign := min(1, max(-1, i-9))
		if a.Sign() != sign {
			t.Error("Sign:", i, a.Sign())
		}
		for j, b := range rising {
			if want := min(1, max(-1, i-j)); a.Cmp(b) != want {
				t.Errorf("Cmp of %d and %d: %d, want %d", i, j, a.Cmp(b), want)
			}
		}
	}
}

func TestBits(t *testing.T) {
	for _, x := range []struct {
		n         whole.Num
		high, low int
	}{
		{whole.Num{}, 0, 0}, {one, 0, 0}, {whole.Int(-1), 0, 0}, {whole.Int(12), 3, 2}, {whole.Int(-12), 3, 2}, {whole.Int(7), 2, 0}, {whole.Int(8), 3, 3},
		{whole.Of(0.75), -1, -2}, {whole.Of(0x1p-1074), -1074, -1074}, {whole.Of(math.MaxFloat64), 1023, 971},
		{whole.Int(math.MinInt64), 63, 63}, {whole.Int(math.MaxInt64), 62, 0}, {one.Shift(64), 64, 64}, {one.Shift(64).Add(one), 64, 0},
		{one.Shift(64).Sub(one), 63, 0}, {one.Shift(128).Sub(one.Shift(64)), 127, 64}, {great, most, most}, {tiny, -most, -most},
		{great.Add(tiny).Neg(), most, -most}, {great.Sub(tiny), most - 1, -most},
	} {
		if x.n.High() != x.high || x.n.Low() != x.low {
			t.Errorf("bits %d to %d, want %d to %d", x.n.High(), x.n.Low(), x.high, x.low)
		}
	}
}

// P1.3

func TestFloatTies(t *testing.T) {
	half, least := power(1, -1), power(1, -300)
	for _, last := range []int64{0, 1, 2, 3, 5, 1<<52 - 1} {
		below := newModel().SetInt64(1<<52 + last)
		for _, k := range []int{0, 1, 11, 12, 64, -30, 971, -1074, -1000} {
			tie := newModel().Add(below, half)
			for _, f := range []*big.Float{below, tie, newModel().Add(tie, least), newModel().Sub(tie, least), newModel().Add(below, least)} {
				f := newModel().SetMantExp(f, k)
				same(t, "a tie", write(f), f)
				same(t, "a tie below 0", write(f).Neg(), newModel().Neg(f))
			}
		}
	}
	for _, x := range []struct {
		n    whole.Num
		want float64
	}{
		{whole.Int(1<<53 + 1), 1 << 53}, {whole.Int(1<<53 + 3), 1<<53 + 4}, {whole.Int(-1<<53 - 1), -1 << 53}, {whole.Int(-1<<53 - 3), -1<<53 - 4},
		{whole.Int(1<<53 + 1).Add(tiny), 1<<53 + 2}, {whole.Int(1<<53 + 1).Sub(tiny), 1 << 53}, {whole.Int(math.MaxInt64), 1 << 63},
	} {
		if x.n.Float() != x.want {
			t.Errorf("Float: %g, want %g", x.n.Float(), x.want)
		}
	}
}

func TestFloatTooGreat(t *testing.T) {
	edge := one.Shift(1024).Sub(one.Shift(970)) // as near to the greatest float as to 2^1024
	for _, x := range []struct {
		n    whole.Num
		want float64
	}{
		{edge.Sub(tiny), math.MaxFloat64}, {edge, math.Inf(1)}, {edge.Add(tiny), math.Inf(1)},
		{one.Shift(1023), 0x1p1023}, {one.Shift(1024), math.Inf(1)}, {one.Shift(2000), math.Inf(1)}, {great, math.Inf(1)}, {great.Add(tiny), math.Inf(1)},
	} {
		if x.n.Float() != x.want || x.n.Neg().Float() != -x.want {
			t.Errorf("Float: %g, want %g", x.n.Float(), x.want)
		}
	}
}

func TestFloatTooSmall(t *testing.T) {
	for _, x := range []struct {
		n    whole.Num
		want float64
	}{
		{one.Shift(-1074), 0x1p-1074}, {one.Shift(-1075), 0}, {one.Shift(-1075).Add(tiny), 0x1p-1074}, {one.Shift(-1075).Sub(tiny), 0},
		{whole.Int(3).Shift(-1075), 0x1p-1073}, {whole.Int(3).Shift(-1075).Sub(tiny), 0x1p-1074}, {whole.Int(5).Shift(-1075), 0x1p-1073},
		{one.Shift(-1076), 0}, {whole.Int(3).Shift(-1076), 0x1p-1074}, {one.Shift(-1200), 0}, {tiny, 0}, {ones(-1076, -most), 0},
		{one.Shift(-1022).Sub(one.Shift(-1075)), 0x1p-1022}, {one.Shift(-1022).Sub(one.Shift(-1074)), 0x1p-1022 - 0x1p-1074},
		{one.Shift(-1022).Sub(one.Shift(-1075)).Sub(tiny), 0x1p-1022 - 0x1p-1074},
	} {
		if x.n.Float() != x.want || x.n.Neg().Float() != -x.want {
			t.Errorf("Float: %g, want %g", x.n.Float(), x.want)
		}
		if x.want == 0 && (math.Signbit(x.n.Float()) || math.Signbit(x.n.Neg().Float())) {
			t.Error("what is too small is -0")
		}
	}
	if f := none.Float(); f != 0 || math.Signbit(f) {
		t.Error("Float of none:", f)
	}
}

// P1.4

func TestFloatsToldAgain(t *testing.T) {
	told := func(x float64) {
		if n := whole.Of(x); !n.OK() || n.Float() != x {
			t.Fatalf("%g is told as %g", x, n.Float())
		}
	}
	for _, x := range edgeFloats() {
		told(x)
	}
	r := newRandom(3)
	for range 100000 {
		told(anyFloat(r))
	}
}

// asTheLanguage holds two floats' sum, difference, product and order against
// the language's own.
func asTheLanguage(t *testing.T, x, y float64) {
	t.Helper()
	a, b := whole.Of(x), whole.Of(y)
	for _, l := range [][2]float64{{a.Add(b).Float(), x + y}, {a.Sub(b).Float(), x - y}, {a.Mul(b).Float(), x * y}, {a.Neg().Float(), -x}} {
		if l[0] != l[1] {
			t.Fatalf("of %g and %g: %g, want %g", x, y, l[0], l[1])
		}
	}
	c := 0
	if x < y {
		c = -1
	} else if x > y {
		c = 1
	}
	if a.Cmp(b) != c || b.Cmp(a) != -c {
		t.Fatalf("Cmp of %g and %g: %d, want %d", x, y, a.Cmp(b), c)
	}
}

func TestAsTheLanguage(t *testing.T) {
	for _, x := range edgeFloats() {
		for _, y := range edgeFloats() {
			asTheLanguage(t, x, y)
		}
	}
	r := newRandom(4)
	for range 30000 {
		x, y := anyFloat(r), anyFloat(r)
		asTheLanguage(t, x, y)
		asTheLanguage(t, x, x)
		asTheLanguage(t, x, math.Nextafter(x, y))
		if z := math.Ldexp(y, math.Ilogb(x)-math.Ilogb(y)+r.IntN(110)-55); !math.IsInf(z, 0) { // near enough to x that all bits count
			asTheLanguage(t, x, z)
		}
	}
}

// P1.5

func TestBrackets(t *testing.T) {
	r := newRandom(5)
	alike := func(what string, a, b whole.Num) {
		t.Helper()
		if !a.OK() || !b.OK() || a.Cmp(b) != 0 || a.Sub(b).Sign() != 0 || a.High() != b.High() || a.Low() != b.Low() {
			t.Fatal(what, a.OK(), b.OK(), a.Cmp(b))
		}
	}
	for range 3000 {
		a, b, c := write(anyModel(r, 6, 400)), write(anyModel(r, 6, 400)), write(anyModel(r, 6, 400))
		alike("a sum turned about:", a.Add(b), b.Add(a))
		alike("a difference turned about:", a.Sub(b), b.Sub(a).Neg())
		alike("a product turned about:", a.Mul(b), b.Mul(a))
		alike("a sum bracketed:", a.Add(b).Add(c), a.Add(b.Add(c)))
		alike("a product bracketed:", a.Mul(b).Mul(c), a.Mul(b.Mul(c)))
		alike("multiplied out:", a.Mul(b.Add(c)), a.Mul(b).Add(a.Mul(c)))
		alike("multiplied out, less:", a.Sub(b).Mul(c), a.Mul(c).Sub(b.Mul(c)))
		alike("less and more:", a.Sub(b).Add(b), a)
	}
}

// P1.6

// pictures is what can be seen of numbers.
func pictures(t *testing.T, l []whole.Num) []*big.Float {
	var out []*big.Float
	for _, n := range l {
		out = append(out, read(t, n))
	}
	return out
}

func TestValues(t *testing.T) {
	r := newRandom(6)
	l := []whole.Num{{}, one, one.Neg(), two, whole.Of(0.1)}
	for range 12 {
		l = append(l, write(anyModel(r, 6, 200)))
	}
	for _, n := range l[:12] { // numbers that came of others: neither may change the other one
		l = append(l, n.Neg(), n.Shift(r.IntN(130)), n.Shift(0), n.Add(whole.Num{}), n.Sub(whole.Num{}), n.Mul(one))
	}
	before := pictures(t, l)
	for _, a := range l {
		_, _, _, _, _, _ = a.Neg(), a.Shift(5), a.Sign(), a.High(), a.Low(), a.Float()
		for _, b := range l {
			_, _, _, _ = a.Add(b), a.Sub(b), a.Mul(b), a.Cmp(b)
		}
	}
	for i, f := range pictures(t, l) {
		if f.Cmp(before[i]) != 0 {
			t.Error("a number changed:", i)
		}
	}
	for _, n := range []whole.Num{none, great, tiny} {
		ok, high, low := n.OK(), n.High(), n.Low()
		_, _, _, _, _ = n.Add(n), n.Sub(n), n.Mul(n), n.Shift(1), n.Neg()
		if n.OK() != ok || n.High() != high || n.Low() != low {
			t.Error("an edge changed:", high, low)
		}
	}
}

// The chapter's examples

func TestExample1(t *testing.T) {
	if n := whole.Of(0.5).Add(whole.Of(0.25)); n.Float() != 0.75 || n.High() != -1 || n.Low() != -2 {
		t.Error("a half and a quarter:", n.Float(), n.High(), n.Low())
	}
	if n := whole.Int(3).Mul(whole.Int(-5)); n.Float() != -15 || n.Sign() != -1 {
		t.Error("3 times -5:", n.Float(), n.Sign())
	}
	if n := whole.Int(12); n.High() != 3 || n.Low() != 2 {
		t.Error("12:", n.High(), n.Low())
	}
	p := whole.Int(1).Shift(100)
	if n := p.Add(whole.Int(1)); n.Float() != 0x1p100 || n.Cmp(p) != 1 {
		t.Error("2^100 + 1:", n.Float(), n.Cmp(p))
	}
}

func TestExample2(t *testing.T) {
	if !whole.Int(1).Shift(65536).OK() || whole.Int(1).Shift(65537).OK() {
		t.Error("1 shifted to Most and one past it")
	}
	if n := whole.Int(0).Shift(1 << 62); !n.OK() || n.Sign() != 0 {
		t.Error("0 shifted")
	}
	if whole.Of(math.Inf(1)).OK() {
		t.Error("an infinite one")
	}
	if f := whole.Int(1 << 53).Add(whole.Int(1)).Float(); f != 1<<53 {
		t.Error("2^53 + 1:", f)
	}
	if f := whole.Int(1 << 53).Add(whole.Int(3)).Float(); f != 1<<53+4 {
		t.Error("2^53 + 3:", f)
	}
}
