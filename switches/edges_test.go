package switches_test

import (
	"math"
	"testing"

	"trivet/api"
	"trivet/switches"
)

func quality(angle float64) api.Plan {
	p := bare()
	p.Quality, p.Angle = true, angle
	return p
}

func areas(area float64) api.Plan {
	p := bare()
	p.Areas, p.Area = true, area
	return p
}

func steiner(n int) api.Plan {
	p := bare()
	p.Delaunay, p.Steiner = true, n
	return p
}

// The empty text, and - alone: the plan without any, which is printed as the empty one.
func TestNoSwitch(t *testing.T) {
	taken(t, "", bare())
	taken(t, "-", bare())
	printed(t, bare(), "")
}

// q without a number, and with one; with and without a power of two.
func TestAngles(t *testing.T) {
	for s, angle := range map[string]float64{
		"q": 20, "q20": 20, "q0": 0, "q60": 60, "q1": 1, "q59": 59, "q0b5": 0, "q0b-9223372036854775808": 0,
		"q1b0": 1, "q1b5": 32, "q15b2": 60, "q30b1": 60, "q120b-1": 60, "q1b-1": 0.5, "q1b-1074": 0x1p-1074,
		"q67b-1": 33.5, "q8444249301319679b-47": math.Nextafter(60, 0), "q3602879701896397b-55": 0.1,
	} {
		taken(t, s, quality(angle))
		taken(t, "-"+s, quality(angle))
		p := quality(angle)
		p.Edges = true
		taken(t, s+"e", p)
		taken(t, "e"+s, p)
	}
	for s, angle := range map[string]float64{
		"q20": 20, "q0": 0, "q60": 60, "q1b-1": 0.5, "q1b-1074": 0x1p-1074, "q67b-1": 33.5,
		"q8444249301319679b-47": math.Nextafter(60, 0),
	} {
		printed(t, quality(angle), s)
	}
}

// Angle 0 and 60, and what lies beside these.
func TestEndsOfAngles(t *testing.T) {
	for _, angle := range []float64{-0x1p-1074, -1, -60, math.Nextafter(60, 61), 61, 90, math.MaxFloat64, -math.MaxFloat64} {
		planRefused(t, quality(angle), api.ErrArg)
		refused(t, "q"+modelText(angle), api.ErrArg)
	}
	for _, s := range []string{"q61", "q-1", "q-1b-1074", "q1b6", "q121b-1", "q1b1023", "q4222124650659841b-46", "q-20", "q-60"} {
		refused(t, s, api.ErrArg)
	}
}

// An Angle of -0 is 0, with Quality and without; so is an Area where there is none.
func TestMinusZero(t *testing.T) {
	minus := math.Copysign(0, -1)
	printed(t, quality(minus), "q0")
	taken(t, "q0", quality(0))
	p := bare()
	p.Angle = minus
	printed(t, p, "")
	p.Area = minus
	printed(t, p, "")
	planRefused(t, areas(minus), api.ErrArg)
	// R7 reads no -0.
	refused(t, "q-0", api.ErrForm)
	refused(t, "a-0", api.ErrForm)
	refused(t, "q-0b3", api.ErrForm)
}

// a with a number, a without one, and both in either order.
func TestBothAreas(t *testing.T) {
	p := areas(0.5)
	taken(t, "a1b-1", p)
	printed(t, p, "a1b-1")
	p.Poly = true
	taken(t, "pa1b-1", p)
	p.Each = true
	for _, s := range []string{"pa1b-1a", "paa1b-1", "apa1b-1", "a1b-1pa", "aa1b-1p", "a1b-1ap", "-aa1b-1p", "a2b-2pa"} {
		taken(t, s, p)
	}
	printed(t, p, "pa1b-1a")
	p.Areas, p.Area = false, 0
	taken(t, "pa", p)
	taken(t, "ap", p)
	printed(t, p, "pa")
	p.Areas, p.Area, p.Quality, p.Angle = true, 2, true, 20
	taken(t, "aqa2p", p)
	taken(t, "a2qap", p)
	taken(t, "aa2pq", p)
}

func TestEndsOfAreas(t *testing.T) {
	for s, area := range map[string]float64{
		"a1": 1, "a1b-1074": 0x1p-1074, "a9007199254740991b971": math.MaxFloat64, "a1b1023": 0x1p1023,
		"a9007199254740991": 0x1p53 - 1, "a1b53": 0x1p53, "a1000": 1000, "a5b-1": 2.5,
	} {
		taken(t, s, areas(area))
		printed(t, areas(area), s)
	}
	taken(t, "a2b-1075", areas(0x1p-1074))
	taken(t, "a9007199254740992", areas(0x1p53))
	taken(t, "a1000b0", areas(1000))
}

// Steiner -1, 0 and MaxPoints, and what lies beside these.
func TestEndsOfSteiner(t *testing.T) {
	printed(t, steiner(-1), "D")
	for s, n := range map[string]int{"DS0": 0, "DS1": 1, "DS1048575": api.MaxPoints - 1, "DS1048576": api.MaxPoints} {
		printed(t, steiner(n), s)
		taken(t, s, steiner(n))
	}
	for _, n := range []int{-2, -3, math.MinInt, api.MaxPoints + 1, math.MaxInt, 1 << 32, -1 << 32} {
		planRefused(t, steiner(n), api.ErrArg)
	}
	refused(t, "DS1048577", api.ErrArg)
	refused(t, "DS9223372036854775807", api.ErrArg)
	for _, s := range []string{"DS-1", "DS-2", "DS9223372036854775808", "DS18446744073709551616", "DS", "DSe", "DS00", "DS01", "DS-", "DSb", "DS1b0", "DS1b-1", "DS 1", "DS+1"} {
		refused(t, s, api.ErrForm)
	}
}

// Each of the three ways to build, and none of them.
func TestBuilders(t *testing.T) {
	for s, build := range map[string]uint8{"": api.Divide, "i": api.Grow, "F": api.Sweep} {
		p := bare()
		p.Build = build
		taken(t, s, p)
		printed(t, p, s)
	}
	for _, build := range []uint8{0, 4, 5, 128, 255} {
		p := bare()
		p.Build = build
		planRefused(t, p, api.ErrArg)
	}
	planRefused(t, api.Plan{}, api.ErrArg)
}

// o is always o2.
func TestSecond(t *testing.T) {
	p := bare()
	p.Second = true
	taken(t, "o2", p)
	taken(t, "-o2", p)
	printed(t, p, "o2")
	p.Edges = true
	taken(t, "eo2", p)
	taken(t, "o2e", p)
	for _, s := range []string{"o", "o1", "o3", "o0", "o02", "o22", "o20", "o2b0", "o-2", "o-", "oe2", "eo", "o 2", "2o", "o2o2", "o2o", "O2p", "o2-"} {
		refused(t, s, api.ErrForm)
	}
}

// A number ends where a byte comes that can't stand in one; S's ends at a b, too.
func TestWhereNumbersEnd(t *testing.T) {
	p := quality(5)
	p.Zero, p.Second = true, true
	for _, s := range []string{"q5zo2", "zq5o2", "zo2q5", "o2q5z", "o2zq5b0", "q5o2z"} {
		taken(t, s, p)
	}
	p.Areas, p.Area, p.Steiner = true, 3, 4
	for _, s := range []string{"q5a3S4zo2", "S4q5a3o2z", "a3S4zq5o2", "zS4o2a3q5", "o2S4zq5a3"} {
		taken(t, s, p)
	}
	for _, s := range []string{"q5 z", "q5.z", "q5\x00", "q5b-1b-1", "a3-4", "a3b--4", "S4b", "DS4b1", "DS4-", "q5-", "q5-z", "a5-z", "D5", "p1", "pb", "p-", "5", "b", "2"} {
		refused(t, s, api.ErrForm)
	}
}

// Switches that go together, since what they need is there.
func TestPlansThatMayBe(t *testing.T) {
	for _, s := range []string{
		"pq0aYS0", "prcOA", "rq60", "ra5Y", "rDS0", "lq", "la1S1", "prq", "pcOA", "paS0", "paY", "DY", "qY", "a1Y", "a1S0", "qS0",
		"ienvzo2j", "Fenvzo2j", "lenvzo2j", "renvzo2j", "pi", "pF", "pl", "iq", "Fq", "iD", "FD", "ipaS1", "FpaYA",
	} {
		if _, err := switches.Parse(s); err != api.OK {
			t.Errorf("Parse(%q): %v", s, err)
		}
		parseAsked(t, s)
	}
}
