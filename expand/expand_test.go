package expand_test

import (
	"math"
	"math/rand/v2"
	"slices"
	"testing"

	"trivet/expand"
)

func minusZero() float64 { return math.Copysign(0, -1) }

func noFloats() []float64 { return []float64{math.Inf(1), math.Inf(-1), math.NaN()} }

// wrongLists may not be, each for a reason of its own.
func wrongLists() [][]float64 {
	over := math.Nextafter(0x1p990, math.Inf(1))
	wrong := [][]float64{
		{0}, {minusZero()}, {0, 1}, {1, 0}, {1, minusZero(), 4}, {0, 0},
		{1, 1}, {4, 5}, {1, -1}, {-1, 1}, {3, 2}, {1, 3}, {1, -3}, {1, 4, 6}, {1, 4, 4, 16},
		{4, 1}, {16, 4, 1}, {1, 16, 4}, {1, 0x1p-200}, {-1, 0x1p-1074}, {0x1p990, 1},
		{over}, {-over}, {1, over}, {1, math.MaxFloat64}, {0x1p-1074, 3 * 0x1p-1074},
		powers(expand.MaxTerms+1, 0, 1), powers(expand.MaxTerms+1, -440, 13), powers(1000, -1000, 1),
	}
	for _, x := range noFloats() {
		wrong = append(wrong, []float64{x}, []float64{1, x}, []float64{x, 1}, []float64{x, x}, []float64{0x1p-20, x, 4})
	}
	return wrong
}

// rightLists may be.
func rightLists() [][]float64 {
	return [][]float64{
		nil, {}, {1}, {-1}, {0.1}, {1, 4}, {-1, 4}, {1, 2}, {3, 4, -8}, {1, 6}, {0x1p-200, 1},
		{0x1p-1074}, {0x1p-1074, 0x1p-1073}, {0x1p990}, {-0x1p990}, {0x1p-1074, -0x1p990},
		{math.Nextafter(0x1p990, 0)}, {0x1p-1022 - 0x1p-1074, 0x1p-1022},
		powers(expand.MaxTerms, 0, 1), powers(expand.MaxTerms, -1074, 30), powers(expand.MaxTerms, -450, 14),
	}
}

func TestExamples(t *testing.T) {
	if e, ok := expand.Of(3); !ok || !slices.Equal(e, []float64{3}) {
		t.Error("Of(3):", e, ok)
	}
	e, ok := expand.Add([]float64{3}, []float64{0.5})
	done(t, "3 and 0.5", e, ok, true, exactly(3.5))
	if e, ok := expand.Add([]float64{1}, []float64{0x1p-200}); !ok || !slices.Equal(e, []float64{0x1p-200, 1}) {
		t.Error("1 and 2^-200:", e, ok)
	}
	e, ok = expand.Mul([]float64{0x1p-200, 1}, []float64{0x1p-200, -1})
	done(t, "the product", e, ok, true, newModel().Sub(power(-400), exactly(1)))
	if s := expand.Sign([]float64{-0x1p-200, 1}); s != 1 {
		t.Error("Sign:", s)
	}
	for _, x := range []struct {
		e    []float64
		want bool
	}{{[]float64{1, 1}, false}, {[]float64{1, 4}, true}, {[]float64{4, 5}, false}, {[]float64{0}, false}} {
		if expand.Check(x.e) != x.want {
			t.Errorf("Check(%g): %v", x.e, !x.want)
		}
	}
	if e, ok := expand.Of(0x1p991); ok || len(e) != 0 {
		t.Error("Of(2^991):", e, ok)
	}
	if e, ok := expand.Scale([]float64{0x1p500}, 1); ok || len(e) != 0 {
		t.Error("Scale of 2^500:", e, ok)
	}
	if expand.MaxTerms != 64 {
		t.Error("MaxTerms:", expand.MaxTerms)
	}
}

func TestListsThatMayBe(t *testing.T) {
	for _, e := range rightLists() {
		if !expand.Check(e) {
			t.Errorf("%x may be", e)
		}
		allAsked(t, e)
		for _, f := range rightLists() {
			bothAsked(t, e, f)
		}
	}
}

func TestListsThatMayNotBe(t *testing.T) {
	for _, e := range wrongLists() {
		if expand.Check(e) || expand.Safe(e) {
			t.Errorf("%x may not be: Check %v, Safe %v", e, expand.Check(e), expand.Safe(e))
		}
		allAsked(t, e)
		for _, f := range slices.Concat(rightLists(), wrongLists()) {
			bothAsked(t, e, f)
			bothAsked(t, f, e)
		}
		for _, b := range []float64{0, minusZero(), 1, -2} {
			if a, ok := expand.Scale(e, b); ok || len(a) != 0 {
				t.Errorf("Scale(%x, %x): %x, %v", e, b, a, ok)
			}
		}
		if a, ok := expand.Sum(e); ok || len(a) != 0 {
			t.Errorf("Sum(%x): %x, %v", e, a, ok)
		}
		if a, ok := expand.Sum([]float64{1}, nil, e, []float64{2}); ok || len(a) != 0 {
			t.Errorf("Sum with %x within: %x, %v", e, a, ok)
		}
	}
}

// A float may be just less than the lowest bit of the next one, and not that
// bit itself.
func TestLowestBits(t *testing.T) {
	r := rand.New(rand.NewPCG(3, 1))
	for range 3000 {
		bits := 1 + r.IntN(53)
		low := r.IntN(2060-bits) - 1070
		next := math.Ldexp(float64(anyBits(r, bits)), low)
		bit := math.Ldexp(1, low)
		for _, x := range sides(bit) {
			want := math.Abs(x) < bit
			for _, e := range [][]float64{{x, next}, {x, -next}, {x, next, 0x1p990}} {
				if expand.Check(e) != want {
					t.Fatalf("Check(%x): %v", e, !want)
				}
				allAsked(t, e)
			}
		}
	}
}

func TestGreatestMagnitudes(t *testing.T) {
	for _, x := range sides(0x1p990) {
		want := math.Abs(x) <= 0x1p990
		e, ok := expand.Of(x)
		if ok != want || ok && !slices.Equal(e, []float64{x}) || !ok && len(e) != 0 {
			t.Errorf("Of(%x): %x, %v", x, e, ok)
		}
		for _, e := range [][]float64{{x}, {-0x1p-1074, x}, {0x1p-20, 1, x}} {
			if expand.Check(e) != want {
				t.Errorf("Check(%x): %v", e, !want)
			}
			allAsked(t, e)
			bothAsked(t, e, []float64{1})
		}
	}
	for _, x := range sides(0x1p900) {
		want := math.Abs(x) <= 0x1p900
		for _, e := range [][]float64{{x}, {0x1p-1074, x}} {
			for _, f := range [][]float64{nil, {1}, {x}, {-x}, {0x1p900}, {1, 0x1p900}} {
				a, ok := expand.Add(e, f)
				done(t, "Add", a, ok, want, sumOf(e, f))
				a, ok = expand.Add(f, e)
				done(t, "Add", a, ok, want, sumOf(e, f))
				a, ok = expand.Sum(f, nil, e)
				done(t, "Sum", a, ok, want, sumOf(e, f))
			}
		}
	}
}

// The least and the greatest floats that are safe, and those next to them.
func TestSafeMagnitudes(t *testing.T) {
	for _, x := range slices.Concat(sides(0x1p-450), sides(0x1p450)) {
		want := 0x1p-450 <= math.Abs(x) && math.Abs(x) <= 0x1p450
		for _, e := range [][]float64{{x}, {0x1p-400, x}, {x, 0x1p400}} {
			if !expand.Check(e) {
				continue
			}
			if expand.Safe(e) != want {
				t.Errorf("Safe(%x): %v", e, !want)
			}
			for _, f := range [][]float64{nil, {1}, {-0x1p-450}, {0x1p450}, {0x1p-450, 0x1.fffffffffffffp449}} {
				a, ok := expand.Mul(e, f)
				done(t, "Mul", a, ok, want, productOf(e, f))
				a, ok = expand.Mul(f, e)
				done(t, "Mul", a, ok, want, productOf(e, f))
			}
			a, ok := expand.Scale(e, 1)
			done(t, "Scale", a, ok, want, numberOf(e))
		}
		for _, e := range [][]float64{nil, {1}, {0x1p-450, 0x1p450}, {-0x1.fffffffffffffp-450}} {
			a, ok := expand.Scale(e, x)
			done(t, "Scale", a, ok, want, productOf(e, []float64{x}))
		}
	}
}

func TestScaleByWrongFloats(t *testing.T) {
	above := math.Nextafter(0x1p990, math.Inf(1))
	for _, b := range append(noFloats(), 0x1p-1074, 0x1p-451, 0x1p451, 0x1p990, above, math.MaxFloat64) {
		for _, e := range [][]float64{nil, {1}, {1, 4}} {
			for _, x := range []float64{b, -b} {
				if a, ok := expand.Scale(e, x); ok || len(a) != 0 {
					t.Errorf("Scale(%x, %x): %x, %v", e, x, a, ok)
				}
			}
		}
	}
	for _, x := range noFloats() {
		if e, ok := expand.Of(x); ok || len(e) != 0 {
			t.Errorf("Of(%x): %x, %v", x, e, ok)
		}
	}
}

func TestNoughts(t *testing.T) {
	zero := newModel()
	for _, x := range []float64{0, minusZero()} {
		if e, ok := expand.Of(x); !ok || len(e) != 0 {
			t.Errorf("Of(%x): %x, %v", x, e, ok)
		}
		for _, e := range [][]float64{nil, {1}, {0x1p-450, -0x1p450}} {
			a, ok := expand.Scale(e, x)
			done(t, "Scale by 0", a, ok, true, zero)
		}
		a, ok := expand.Scale([]float64{0x1p451}, x)
		done(t, "Scale by 0 of one that is not safe", a, ok, false, zero)
	}
	for _, none := range [][]float64{nil, {}} {
		if !expand.Check(none) || !expand.Safe(none) {
			t.Error("no floats may be, and are safe")
		}
		if expand.Sign(none) != 0 || math.Float64bits(expand.Near(none)) != 0 || len(expand.Neg(none)) != 0 {
			t.Error("no floats:", expand.Sign(none), expand.Near(none), expand.Neg(none))
		}
		for _, e := range rightLists() {
			bothAsked(t, none, e)
			bothAsked(t, e, none)
		}
	}
}

func TestPartsThatCancel(t *testing.T) {
	r := rand.New(rand.NewPCG(3, 2))
	zero := newModel()
	for range 1000 {
		e := anyExpansion(r, anyShape(r, -1074, 900))
		a, ok := expand.Add(e, expand.Neg(e))
		done(t, "to 0", a, ok, true, zero)
		part := r.IntN(len(e) + 1)
		a, ok = expand.Sum(e[part:], expand.Neg(e), e[:part])
		done(t, "parts to 0", a, ok, true, zero)
		if part < len(e) {
			a, ok = expand.Add(e, expand.Neg(e[part:]))
			done(t, "to the lower part", a, ok, true, numberOf(e[:part]))
		}
		other := slices.Clone(e)
		if part < len(e) {
			other[part] = math.Nextafter(other[part], 0)
			bothAsked(t, e, other)
			bothAsked(t, e, expand.Neg(other))
		}
	}
}

// What floats below leave of those above must be told by Near, too: a sum that
// rounds on its way up comes to 0 here.
func TestNearOfWhatCancels(t *testing.T) {
	for _, x := range []struct {
		e    []float64
		want float64
	}{
		{[]float64{-(0x1p-50 - 0x1p-103), -(4 - 0x1p-50), 4}, 0x1p-103},
		{[]float64{0x1p-50 - 0x1p-103, 4 - 0x1p-50, -4}, -0x1p-103},
		{[]float64{-1, -2, -4, 8}, 1},
		{[]float64{3, 4}, 7},
		{[]float64{-3, 4}, 1},
		{[]float64{-0x1p-1074, 0x1p-1073}, 0x1p-1074},
		{[]float64{-0x1p-60, 1}, 1},
	} {
		if near := expand.Near(x.e); near != x.want {
			t.Errorf("Near(%x): %x, want %x", x.e, near, x.want)
		}
		allAsked(t, x.e)
	}
}

// As many floats as may be, and one more: handed in, and as an answer would
// have them, if each float that goes in stood alone in it.
func TestMaxTerms(t *testing.T) {
	most := expand.MaxTerms
	for _, step := range []int{1, 2, 13, 14} {
		full, over := powers(most, -440, step), powers(most+1, -440, step)
		if !expand.Check(full) || !expand.Safe(full) {
			t.Errorf("%d floats may be, and are safe", most)
		}
		if expand.Check(over) || expand.Safe(over) || expand.Sign(over) != 0 || expand.Near(over) != 0 {
			t.Errorf("%d floats may not be", most+1)
		}
		bothAsked(t, full, full)
		bothAsked(t, full, over)
		bothAsked(t, over, full)
		bothAsked(t, full, []float64{1})
		bothAsked(t, over, []float64{1})
	}
	for _, parts := range [][2]int{{32, 32}, {33, 32}, {63, 1}, {64, 1}, {64, 63}, {64, 64}} {
		a, b := powers(parts[0], -1074, 30), powers(parts[1], -1059, 30)
		bothAsked(t, a, b)
		bothAsked(t, b, a)
		bothAsked(t, a, expand.Neg(b))
		a, b = powers(parts[0], -450, 14), powers(parts[1], -443, 14)
		bothAsked(t, a, b)
		bothAsked(t, expand.Neg(a), b)
	}
}

// Floats of as many bits as there are, each at the ends of what may be.
func TestLongExpansions(t *testing.T) {
	r := rand.New(rand.NewPCG(3, 3))
	for range 60 {
		for _, bits := range []int{14, 29, 30} {
			exact := shape{64, -1074, 900, func() int { return bits }, func() int { return 0 }}
			e, f := anyExpansion(r, exact), anyExpansion(r, exact)
			bothAsked(t, e, f)
			exact.low, exact.high = -450, 450
			bothAsked(t, anyExpansion(r, exact), anyExpansion(r, exact))
		}
	}
}

func TestManyExpansions(t *testing.T) {
	r := rand.New(rand.NewPCG(3, 4))
	for range 4000 {
		bothAsked(t, anyExpansion(r, anyShape(r, -1074, 990)), anyExpansion(r, anyShape(r, -1074, 990)))
		bothAsked(t, anyExpansion(r, anyShape(r, -1074, 900)), anyExpansion(r, anyShape(r, -1074, 900)))
		bothAsked(t, anyExpansion(r, anyShape(r, -450, 450)), anyExpansion(r, anyShape(r, -450, 450)))
		near := r.IntN(300) - 200
		bothAsked(t, anyExpansion(r, anyShape(r, near, near+170)), anyExpansion(r, anyShape(r, near, near+170)))
	}
}

// Floats of one, and of few bits, all small: every way of standing to each
// other comes about.
func TestSmallExpansions(t *testing.T) {
	all := smallExpansions(4)
	for _, e := range all {
		allAsked(t, e)
		for _, f := range all {
			bothAsked(t, e, f)
		}
	}
}

// smallExpansions are all those of whole numbers below 2^bits.
func smallExpansions(bits int) [][]float64 {
	all := [][]float64{nil}
	for i := 0; i < len(all); i++ {
		for n := 1; n < 1<<bits; n++ {
			for _, x := range []float64{float64(n), -float64(n)} {
				if e := append(slices.Clone(all[i]), x); modelCheck(e) {
					all = append(all, e)
				}
			}
		}
	}
	return all
}

func TestSums(t *testing.T) {
	a, ok := expand.Sum()
	done(t, "Sum of no list", a, ok, true, newModel())
	for _, e := range rightLists() {
		a, ok := expand.Sum(e)
		done(t, "Sum of one list", a, ok, modelAddable(e), numberOf(e))
	}
	r := rand.New(rand.NewPCG(3, 5))
	for _, count := range []int{2, 3, 10, expand.MaxTerms - 1, expand.MaxTerms, expand.MaxTerms + 1, 1000} {
		for range 10 {
			lists, number := make([][]float64, count), newModel()
			for i := range lists {
				lists[i] = anyExpansion(r, anyShape(r, -1074, 900))
				number.Add(number, numberOf(lists[i]))
			}
			a, ok := expand.Sum(lists...)
			done(t, "Sum of many lists", a, ok, count <= expand.MaxTerms, number)
		}
		a, ok := expand.Sum(make([][]float64, count)...)
		done(t, "Sum of empty lists", a, ok, count <= expand.MaxTerms, newModel())
	}
}

// As many of the greatest lists as may be are together above what each of them
// may have.
func TestGreatestSums(t *testing.T) {
	greatest := []float64{0x1.fffffffffffffp899 - 0x1p847}
	greatest = append(greatest, 0x1p900)
	lists := make([][]float64, expand.MaxTerms)
	for i := range lists {
		lists[i] = greatest
	}
	number := newModel().Mul(exactly(expand.MaxTerms), numberOf(greatest))
	a, ok := expand.Sum(lists...)
	done(t, "Sum of the greatest", a, ok, true, number)
	if b, ok := expand.Add(a, []float64{1}); ok || len(b) != 0 {
		t.Errorf("Add of what is above 2^900: %x, %v", b, ok)
	}
	if expand.Cmp(a, greatest) != 1 || expand.Cmp(expand.Neg(a), a) != -1 {
		t.Error("Cmp of the greatest")
	}
	top := []float64{0x1p-1074, 0x1p990}
	if expand.Cmp(top, expand.Neg(top)) != 1 || expand.Cmp([]float64{0x1p990}, top) != -1 {
		t.Error("Cmp of 2^990")
	}
}

// Sums and products may be bracketed otherwise, and multiplied out.
func TestManySteps(t *testing.T) {
	r := rand.New(rand.NewPCG(3, 6))
	must := func(e []float64, ok bool) []float64 {
		if !ok {
			t.Fatal("it is not done")
		}
		return e
	}
	for range 500 {
		near := r.IntN(40) - 20
		e := anyExpansion(r, anyShape(r, near-80, near+80))
		f := anyExpansion(r, anyShape(r, near-80, near+80))
		g := anyExpansion(r, anyShape(r, near-80, near+80))
		apart := must(expand.Add(must(expand.Mul(e, g)), must(expand.Mul(f, g))))
		if together := must(expand.Mul(must(expand.Add(e, f)), g)); expand.Cmp(apart, together) != 0 {
			t.Fatalf("(%x and %x) times %x: %x, but %x", e, f, g, together, apart)
		}
		done(t, "both products", apart, true, true, newModel().Mul(sumOf(e, f), numberOf(g)))
	}
}

// Answers share nothing with what was handed in, and nothing behind its end is
// read or written.
func TestAnswersAreNew(t *testing.T) {
	calls := map[string]func(e []float64) []float64{
		"Neg":   expand.Neg,
		"Add":   func(e []float64) []float64 { a, _ := expand.Add(e, nil); return a },
		"Added": func(e []float64) []float64 { a, _ := expand.Add(nil, e); return a },
		"Sum":   func(e []float64) []float64 { a, _ := expand.Sum(e); return a },
		"Scale": func(e []float64) []float64 { a, _ := expand.Scale(e, 1); return a },
		"Mul":   func(e []float64) []float64 { a, _ := expand.Mul(e, []float64{1}); return a },
	}
	for name, call := range calls {
		room := []float64{0x1p-100, 0x1p-30, 1, 7, 7, 7}
		kept := slices.Clone(room)
		answer := call(room[:3])
		before := slices.Clone(answer)
		if !slices.Equal(room, kept) {
			t.Errorf("%s changed %x to %x", name, kept, room)
		}
		for i := range room {
			room[i] = 99
		}
		if !slices.Equal(answer, before) {
			t.Errorf("%s: the answer changed with what was handed in", name)
		}
		whole := answer[:cap(answer)]
		for i := range whole {
			whole[i] = 55
		}
		if slices.Contains(room, 55) {
			t.Errorf("%s: what was handed in changed with the answer", name)
		}
		if again := call(kept[:3:3]); !slices.Equal(again, before) {
			t.Errorf("%s: %x, and once more: %x", name, before, again)
		}
	}
}

// Of any list each float is turned about.
func TestNegOfAnyList(t *testing.T) {
	long := powers(1000, -500, 1)
	long[7], long[8], long[9] = math.NaN(), math.Inf(1), 0
	for _, e := range append(wrongLists(), long) {
		turnedAbout(t, e)
	}
	if e := expand.Neg([]float64{5, math.Inf(-1), 5}); !slices.Equal(e, []float64{-5, math.Inf(1), -5}) {
		t.Error("Neg:", e)
	}
}
