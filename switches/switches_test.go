package switches_test

import (
	"math/rand/v2"
	"strings"
	"testing"

	"trivet/api"
	"trivet/switches"
)

func TestFirstExample(t *testing.T) {
	taken(t, "pq30a1b-3", api.Plan{Poly: true, Quality: true, Angle: 30, Areas: true, Area: 0.125, Build: api.Divide, Steiner: -1})
	second := api.Plan{Poly: true, Quality: true, Angle: 20, Areas: true, Area: 0.5, Each: true, Build: api.Divide, Steiner: -1}
	taken(t, "-pa1b-1aq", second)
	printed(t, second, "pq20a1b-1a")
}

func TestSecondExample(t *testing.T) {
	taken(t, "q", api.Plan{Quality: true, Angle: 20, Build: api.Divide, Steiner: -1})
	taken(t, "r", api.Plan{Again: true, Build: api.Divide, Steiner: -1})
	taken(t, "zo2", api.Plan{Zero: true, Second: true, Build: api.Divide, Steiner: -1})
	taken(t, "-", api.Plan{Build: api.Divide, Steiner: -1})
	taken(t, "", api.Plan{Build: api.Divide, Steiner: -1})
	for _, s := range []string{"q61", "a0"} {
		refused(t, s, api.ErrArg)
	}
	for _, s := range []string{"a", "iF", "li", "rF", "Y", "S5", "c"} {
		refused(t, s, api.ErrSwitch)
	}
	for _, s := range []string{"pp", "o", "o3", "x", "q1.2", "q1b", "q-1b", "S", "S1b2"} {
		refused(t, s, api.ErrForm)
	}
}

// P14.1 and P14.2: what each switch sets, alone or with what it needs, none of it
// by the model.
func TestEachSwitch(t *testing.T) {
	for s, set := range map[string]func(p *api.Plan){
		"p":   func(p *api.Plan) { p.Poly = true },
		"r":   func(p *api.Plan) { p.Again = true },
		"q7":  func(p *api.Plan) { p.Quality, p.Angle = true, 7 },
		"a7":  func(p *api.Plan) { p.Areas, p.Area = true, 7 },
		"pa":  func(p *api.Plan) { p.Poly, p.Each = true, true },
		"D":   func(p *api.Plan) { p.Delaunay = true },
		"pc":  func(p *api.Plan) { p.Poly, p.Convex = true, true },
		"pO":  func(p *api.Plan) { p.Poly, p.NoHoles = true, true },
		"DY":  func(p *api.Plan) { p.Delaunay, p.Whole = true, true },
		"DS7": func(p *api.Plan) { p.Delaunay, p.Steiner = true, 7 },
		"i":   func(p *api.Plan) { p.Build = api.Grow },
		"F":   func(p *api.Plan) { p.Build = api.Sweep },
		"l":   func(p *api.Plan) { p.Upright = true },
		"e":   func(p *api.Plan) { p.Edges = true },
		"n":   func(p *api.Plan) { p.Near = true },
		"v":   func(p *api.Plan) { p.Voronoi = true },
		"z":   func(p *api.Plan) { p.Zero = true },
		"o2":  func(p *api.Plan) { p.Second = true },
		"j":   func(p *api.Plan) { p.Drop = true },
		"pA":  func(p *api.Plan) { p.Poly, p.Regions = true, true },
	} {
		want := bare()
		set(&want)
		taken(t, s, want)
		taken(t, "-"+s, want)
		printed(t, want, s)
	}
}

// P14.2: the order of as many switches as go together.
func TestWholeRows(t *testing.T) {
	all := api.Plan{
		Poly: true, Quality: true, Angle: 33.5, Areas: true, Area: 0.75, Each: true, Delaunay: true, Convex: true,
		NoHoles: true, Whole: true, Steiner: 12, Build: api.Divide, Edges: true, Near: true, Voronoi: true, Zero: true,
		Second: true, Drop: true, Regions: true,
	}
	for s, change := range map[string]func(p *api.Plan){
		"pq67b-1a3b-2aDcOYS12envzo2jA":  func(p *api.Plan) {},
		"prq67b-1a3b-2aDcOYS12envzo2jA": func(p *api.Plan) { p.Again = true },
		"pq67b-1a3b-2aDcOYS12lenvzo2jA": func(p *api.Plan) { p.Upright = true },
		"pq67b-1a3b-2aDcOYS12ienvzo2jA": func(p *api.Plan) { p.Build = api.Grow },
		"pq67b-1a3b-2aDcOYS12Fenvzo2jA": func(p *api.Plan) { p.Build = api.Sweep },
		"pq67b-1aDcOYS12envzo2jA":       func(p *api.Plan) { p.Areas, p.Area = false, 0 },
		"pa3b-2DcOYenvzo2jA":            func(p *api.Plan) { p.Quality, p.Angle, p.Each, p.Steiner = false, 0, false, -1 },
	} {
		p := all
		change(&p)
		printed(t, p, s)
		taken(t, s, p)
	}
}

// P14.1, on drawn rows: enough of each kind of answer.
func TestDrawnRows(t *testing.T) {
	r := rand.New(rand.NewPCG(14, 1))
	seen := map[api.Errno]int{}
	for range 60000 {
		_, err := parseAsked(t, drawnRow(r))
		seen[err]++
	}
	for _, err := range []api.Errno{api.OK, api.ErrArg, api.ErrForm, api.ErrSwitch} {
		if seen[err] < 3000 {
			t.Error("of the kinds there are", seen)
		}
	}
}

// P14.1: each text of up to two bytes, and each of three that can stand in a row.
func TestShortRows(t *testing.T) {
	parseAsked(t, "")
	for a := range 256 {
		parseAsked(t, string([]byte{byte(a)}))
		for b := range 256 {
			parseAsked(t, string([]byte{byte(a), byte(b)}))
		}
	}
	const bytes = "prqaDcOYSiFlenvzo2jA061b-"
	for _, a := range bytes {
		for _, b := range bytes {
			for _, c := range bytes {
				parseAsked(t, string([]rune{a, b, c}))
			}
		}
	}
}

// P14.1: rows into which any byte has come, at any place.
func TestSpoiledRows(t *testing.T) {
	r := rand.New(rand.NewPCG(14, 2))
	const bytes = "prqaDcOYSiFlenvzo2jA0123456789b-bb-- .+xB\x00\n\xff"
	for range 40000 {
		row := drawnRow(r)
		at := r.IntN(len(row) + 1)
		parseAsked(t, row[:at]+string(bytes[r.IntN(len(bytes))])+row[at:])
		parseAsked(t, row[:at]+row[min(at+1, len(row)):])
	}
}

// P14.1 and P14.2, on each plan that can be told apart by whether its switches go
// together.
func TestAllSwitchesTogether(t *testing.T) {
	told := []string{"Poly", "Again", "Each", "Delaunay", "Convex", "NoHoles", "Whole", "Upright", "Regions", "Quality", "Areas"}
	seen := map[api.Errno]int{}
	for set := range 1 << len(told) {
		for _, build := range []uint8{api.Divide, api.Sweep, api.Grow} {
			for _, steiner := range []int{-1, 0} {
				p := api.Plan{Build: build, Steiner: steiner}
				for i, field := range told {
					if set>>i&1 == 1 {
						setFlag(&p, field)
					}
				}
				if p.Areas {
					p.Area = 1
				}
				_, err := planAsked(t, p)
				seen[err]++
			}
		}
	}
	if seen[api.OK] < 500 || seen[api.ErrSwitch] < 5000 || len(seen) != 2 {
		t.Error("of the kinds there are", seen)
	}
}

// P14.1 and P14.2, on drawn plans.
func TestDrawnPlans(t *testing.T) {
	r := rand.New(rand.NewPCG(14, 3))
	seen := map[api.Errno]int{}
	for range 40000 {
		_, err := planAsked(t, drawnPlan(r))
		seen[err]++
		_, err = planAsked(t, drawnRightPlan(r))
		if err != api.OK {
			t.Error("a plan that may be is refused:", err)
		}
	}
	if seen[api.OK] < 10 || seen[api.ErrArg] < 10000 || seen[api.ErrSwitch] < 1000 || len(seen) != 3 {
		t.Error("of the kinds there are", seen)
	}
}

// R2: nothing is left behind by a call, whichever one went ahead.
func TestNothingIsLeftBehind(t *testing.T) {
	rows := []string{"", "-", "pq30a1b-3", "pa1b-1aq", "iF", "pp", "S5", "q61", "DS5", "i", "F", "zo2", "pqYO", "a5S7j"}
	for _, ahead := range rows {
		for _, s := range rows {
			switches.Parse(ahead)
			p, err := parseAsked(t, s)
			if err == api.OK {
				planAsked(t, p)
			}
		}
	}
}

// R1: rows of many bytes end, too.
func TestLongRows(t *testing.T) {
	for _, x := range []string{"p", "-", "q", "a", "S", "o2", "1", "b", "\x00", "\xff", "pr", "a1", "q1"} {
		refused(t, x+strings.Repeat(x, 1<<16), api.ErrForm)
	}
	for _, ahead := range []string{"q", "a", "pS", "DS", "D"} {
		for _, x := range []string{"1", "0", "b", "-", "1b", "-1", "1b-"} {
			refused(t, ahead+strings.Repeat(x, 1<<16), api.ErrForm)
			refused(t, ahead+strings.Repeat(x, 1<<16)+"e", api.ErrForm)
		}
	}
}
