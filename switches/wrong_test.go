package switches_test

import (
	"math"
	"slices"
	"strings"
	"testing"

	"trivet/api"
)

// Letters, and other bytes, that are no switch: alone, and at each place of a row.
func TestNoSwitches(t *testing.T) {
	for b := range 256 {
		x := string([]byte{byte(b)})
		if strings.Contains("prqaDcOYSiFlenvzojA-", x) {
			continue
		}
		for _, s := range []string{x, "-" + x, "p" + x, x + "p", "pe" + x + "z", "q20 " + x, "DS5z" + x, "o2" + x, x + "o2"} {
			refused(t, s, api.ErrForm)
		}
	}
	for _, s := range []string{"é", "pé", "ｐ", "p q", " p", "p ", "p\n", "p\x00", "p,q", "pq20;", "Q", "P", "x", "s5", "f", "I", "L", "d", "y", "o２"} {
		refused(t, s, api.ErrForm)
	}
}

// A letter twice, with or without something between, and with another number.
func TestTwice(t *testing.T) {
	for _, f := range flags {
		for _, s := range []string{f.text + f.text, f.text + "z" + f.text, "-" + f.text + f.text, f.text + "q" + f.text, "pD" + f.text + "q5" + f.text} {
			refused(t, s, api.ErrForm)
		}
	}
	for _, s := range []string{
		"ii", "FF", "iei", "FeF", "iFi", "FiF", "iiF", "qq", "q20q", "qq20", "q20q20", "q20q30", "qeq", "q0q0", "qpq",
		"DS5S5", "DS0S0", "DS5S6", "DS0S1", "S5DS5", "S1eS1D", "S5S", "o2o2", "o2eo2", "o2o",
	} {
		refused(t, s, api.ErrForm)
	}
	for _, s := range []string{
		"a1a1", "a1a2", "a1ea1", "a1b-1a1b-1", "paa", "pa1aa", "paaa1", "paa1a", "pa1aa1", "paa1a1", "pa1a1a", "aa", "aea", "a1a1a", "apa", "a0a0",
	} {
		refused(t, s, api.ErrForm)
	}
}

// Numbers that are none, or of which there is no float.
func TestNoNumbers(t *testing.T) {
	for _, number := range []string{
		"b", "-", "--", "bb", "b1", "-b", "b-", "1b", "-1b", "1b-", "1-", "1--", "1-1", "-1-1", "--1", "01", "00", "-01", "-0", "0b", "0b-", "0b-0", "0b00",
		"1b01", "1b-0", "1b-01", "1b1b1", "1bb1", "1b--1", "-b1", "9223372036854775808", "-9223372036854775809", "1b9223372036854775808",
		"9007199254740993", "9007199254740993b0", "-9007199254740993", "9223372036854775807", "1b1024", "1b-1075", "3b-1075", "-1b1024", "1b99999", "1b-99999",
		strings.Repeat("1", 400), strings.Repeat("1", 401), "1b" + strings.Repeat("0", 399),
	} {
		for _, s := range []string{"q" + number, "-q" + number, "q" + number + "e", "eq" + number, "a" + number, "-a" + number, "a" + number + "e", "pa" + number, "paa" + number, "pa" + number + "a"} {
			refused(t, s, api.ErrForm)
		}
	}
	for _, number := range []string{"1.2", ".5", "1.", "+1", "1e5", "1B1", "0x1", "1_0", "inf", "nan", "1b+1", "1b.5", " 1", "1 ", "(1)", "1/2", "٣"} {
		refused(t, "q"+number, api.ErrForm)
		refused(t, "a"+number, api.ErrForm)
		refused(t, "DS"+number, api.ErrForm)
	}
}

// S without a number, or with another one than of digits.
func TestNoCounts(t *testing.T) {
	for _, s := range []string{"S", "-S", "DS", "SD", "DSp", "DS-", "DS-1", "DS-5", "DSb", "DSb5", "DS5b", "DS5b1", "S1b2", "DS5-", "DS05", "DS00", "DS+5", "DS5.", "DS9223372036854775808", "DS" + strings.Repeat("9", 500)} {
		refused(t, s, api.ErrForm)
	}
}

// A - elsewhere than ahead of all.
func TestDashes(t *testing.T) {
	for _, s := range []string{"--", "---", "--p", "p-", "p-q", "-p-q", "-p-", "e-z", "o2-", "o-2", "q-", "q20-", "q20-e", "a-", "a1-", "-q-", "DS5-", "DS-5", "-DS5-e", "pa-e"} {
		refused(t, s, api.ErrForm)
	}
	for _, s := range []string{"-", "-p", "-e", "-q", "-q-1b-1"} {
		parseAsked(t, s)
	}
	refused(t, "-q-1b-1", api.ErrArg)
}

// An Area that is not above 0, or not finite; an Angle that is no number.
func TestAreasAndAnglesThatMayNotBe(t *testing.T) {
	for _, x := range []float64{0, math.Copysign(0, -1), -1, -0x1p-1074, -math.MaxFloat64, math.Inf(1), math.Inf(-1), math.NaN()} {
		planRefused(t, areas(x), api.ErrArg)
	}
	for _, s := range []string{"a0", "a0b5", "a-1", "a-1b-1074", "a-9007199254740991b971", "-a0", "a0e", "ea0"} {
		refused(t, s, api.ErrArg)
	}
	for _, x := range []float64{math.Inf(1), math.Inf(-1), math.NaN()} {
		planRefused(t, quality(x), api.ErrArg)
	}
}

// An Angle without Quality, an Area without Areas, whatever they are.
func TestNumbersWithoutTheirSwitches(t *testing.T) {
	for _, x := range []float64{20, 60, 1, 0x1p-1074, -0x1p-1074, -1, 61, math.MaxFloat64, math.Inf(1), math.Inf(-1), math.NaN()} {
		p := bare()
		p.Angle = x
		planRefused(t, p, api.ErrArg)
		p = bare()
		p.Area = x
		planRefused(t, p, api.ErrArg)
		p.Poly, p.Each = true, true // a without a number says nothing of Area
		planRefused(t, p, api.ErrArg)
		p = areas(1)
		p.Angle = x
		planRefused(t, p, api.ErrArg)
		p = quality(20)
		p.Area = x
		planRefused(t, p, api.ErrArg)
	}
}

// with is the plan without any, with some fields set to true.
func with(fields ...string) api.Plan {
	p := bare()
	for _, field := range fields {
		setFlag(&p, field)
	}
	return p
}

// Each pair of switches that do not go together, in either order, in rows and in
// plans; and i with F, of which no plan tells.
func TestPairsThatDoNotGo(t *testing.T) {
	for _, x := range []struct{ a, b string }{{"l", "i"}, {"l", "F"}, {"r", "i"}, {"r", "F"}, {"r", "l"}, {"i", "F"}} {
		for _, s := range []string{x.a + x.b, x.b + x.a, "-" + x.a + x.b, "p" + x.a + "q" + x.b, x.b + "pq20" + x.a, x.a + "e" + x.b + "z"} {
			refused(t, s, api.ErrSwitch)
		}
	}
	for _, build := range []uint8{api.Sweep, api.Grow} {
		for _, p := range []api.Plan{with("Upright"), with("Again"), with("Again", "Upright"), with("Poly", "Upright"), with("Poly", "Again", "Delaunay")} {
			p.Build = build
			planRefused(t, p, api.ErrSwitch)
		}
	}
	planRefused(t, with("Again", "Upright"), api.ErrSwitch)
}

// Switches that need another one: of a plane graph, and of refinement.
func TestSwitchesWithoutWhatTheyNeed(t *testing.T) {
	for x, field := range map[string]string{"a": "Each", "c": "Convex", "O": "NoHoles", "A": "Regions"} {
		for _, s := range []string{x, "-" + x, "r" + x, x + "r", "q" + x, "D" + x, "a1" + x, "i" + x, "F" + x, "envzo2j" + x, "l" + x} {
			refused(t, s, api.ErrSwitch)
			if p, err := parseAsked(t, "p"+s); strings.HasPrefix(s, "-") == (err == api.OK) {
				t.Errorf("p%s: %+v, %v", s, p, err)
			}
		}
		planRefused(t, with(field), api.ErrSwitch)
		planRefused(t, with(field, "Again"), api.ErrSwitch)
		planRefused(t, with(field, "Delaunay"), api.ErrSwitch)
		printed(t, with(field, "Poly"), "p"+x)
	}
	for _, x := range []string{"Y", "S0", "S5", "S1048576", "YS5"} {
		for _, s := range []string{x, "-" + x, "p" + x, "pcOA" + x, x + "r", "i" + x, "l" + x, x + "envzo2j"} {
			refused(t, s, api.ErrSwitch)
		}
		for _, need := range []string{"q", "q0", "a1", "pa", "D"} {
			if _, err := parseAsked(t, x+need); err != api.OK {
				t.Errorf("%s%s: %v", x, need, err)
			}
		}
	}
	planRefused(t, with("Whole"), api.ErrSwitch)
	planRefused(t, with("Whole", "Poly", "Convex", "NoHoles", "Regions"), api.ErrSwitch)
	for _, n := range []int{0, 1, api.MaxPoints} {
		p := bare()
		p.Steiner = n
		planRefused(t, p, api.ErrSwitch)
		p.Poly = true
		planRefused(t, p, api.ErrSwitch)
	}
}

// Of two faults of a row the one that the chapter's tables name first, whichever
// stands first in the row: the form, i and F both, ErrArg, ErrSwitch.
func TestTwoFaultsOfARow(t *testing.T) {
	faults := []struct {
		err  api.Errno
		rows []string
	}{
		{api.ErrForm, []string{"x", "zz", "o3o2", "q1b", "qb", "S", "Sb1", "a1b-1075", "o", "a-"}},
		{api.ErrSwitch, []string{"iF", "Fi", "iDF"}},
		{api.ErrArg, []string{"q61", "a0", "a-1", "q-1", "S1048577"}},
		{api.ErrSwitch, []string{"li", "rF", "rl", "c", "O", "A", "Y", "YS5"}},
	}
	for i, first := range faults {
		for _, later := range faults[i+1:] {
			for _, a := range first.rows {
				for _, b := range later.rows {
					if _, _, right := modelRow(a + b); !right && first.err != api.ErrForm {
						continue // a letter would stand twice
					}
					refused(t, a+b, first.err)
					refused(t, b+"e"+a, first.err)
				}
			}
		}
	}
	// i and F both come ahead of what Check answers, all else that does not go behind it.
	refused(t, "iFq61", api.ErrSwitch)
	refused(t, "q61iF", api.ErrSwitch)
	refused(t, "iFq61x", api.ErrForm)
	refused(t, "q61Y", api.ErrArg)
	refused(t, "cq61", api.ErrArg)
	refused(t, "S1048577", api.ErrArg)
	refused(t, "aa0", api.ErrArg)
}

// Of two faults of a plan ErrArg comes ahead of ErrSwitch.
func TestTwoFaultsOfAPlan(t *testing.T) {
	args := []func(p *api.Plan){
		func(p *api.Plan) { p.Quality, p.Angle = true, 61 },
		func(p *api.Plan) { p.Quality, p.Angle = true, math.NaN() },
		func(p *api.Plan) { p.Quality, p.Angle = false, 20 },
		func(p *api.Plan) { p.Areas, p.Area = true, 0 },
		func(p *api.Plan) { p.Areas, p.Area = true, math.Inf(1) },
		func(p *api.Plan) { p.Areas, p.Area = false, 1 },
		func(p *api.Plan) { p.Steiner = -2 },
		func(p *api.Plan) { p.Steiner = api.MaxPoints + 1 },
		func(p *api.Plan) { p.Build = 0 },
		func(p *api.Plan) { p.Build = 4 },
	}
	others := []func(p *api.Plan){
		func(p *api.Plan) { p.Upright, p.Build = true, api.Sweep },
		func(p *api.Plan) { p.Again, p.Build = true, api.Grow },
		func(p *api.Plan) { p.Again, p.Upright = true, true },
		func(p *api.Plan) { p.Each = true },
		func(p *api.Plan) { p.Convex = true },
		func(p *api.Plan) { p.NoHoles = true },
		func(p *api.Plan) { p.Regions = true },
		func(p *api.Plan) { p.Whole = true },
		func(p *api.Plan) { p.Steiner = 0 },
	}
	for i, other := range others {
		p := bare()
		other(&p)
		planRefused(t, p, api.ErrSwitch)
		for _, arg := range args {
			p := bare()
			other(&p)
			arg(&p)
			planRefused(t, p, api.ErrArg)
		}
		for _, more := range others[i+1:] {
			p := bare()
			other(&p)
			more(&p)
			planRefused(t, p, api.ErrSwitch)
		}
	}
	for i, arg := range args {
		for _, more := range slices.Delete(slices.Clone(args), i, i+1) {
			p := bare()
			arg(&p)
			more(&p)
			planAsked(t, p)
		}
	}
}
