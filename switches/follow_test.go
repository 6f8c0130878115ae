package switches_test

import (
	"math/rand/v2"
	"slices"
	"strings"
	"testing"

	"trivet/api"
	"trivet/switches"
)

// P14.3: a plan that is printed, and parsed again, is as it was.
func back(t *testing.T, p api.Plan) {
	t.Helper()
	s, err := switches.Print(p)
	if err != api.OK {
		t.Fatalf("Print(%+v): %v", p, err)
	}
	if again, err := switches.Parse(s); err != api.OK || again != p {
		t.Fatalf("Parse(%q): %+v, %v, want %+v", s, again, err, p)
	}
	if again, err := switches.Parse("-" + s); err != api.OK || again != p {
		t.Fatalf("Parse(-%q): %+v, %v, want %+v", s, again, err, p)
	}
}

func TestDrawnPlansBack(t *testing.T) {
	r := rand.New(rand.NewPCG(14, 4))
	for range 60000 {
		back(t, drawnRightPlan(r))
	}
}

// P14.3, on each plan that may be, of a few numbers.
func TestAllPlansBack(t *testing.T) {
	fields := []string{"Quality", "Areas"}
	for _, f := range flags {
		if f.field != "Edges" && f.field != "Near" && f.field != "Zero" {
			fields = append(fields, f.field)
		}
	}
	count := 0
	for set := range 1 << len(fields) {
		p := bare()
		for i, field := range fields {
			if set>>i&1 == 1 {
				setFlag(&p, field)
			}
		}
		if p.Areas {
			p.Area = 0.25
		}
		for _, p.Build = range []uint8{api.Divide, api.Sweep, api.Grow} {
			for _, p.Steiner = range []int{-1, 0, api.MaxPoints} {
				if switches.Check(p) == api.OK {
					back(t, p)
					count++
				}
			}
		}
	}
	if count < 10000 {
		t.Error("there are", count)
	}
}

func TestNumbersBack(t *testing.T) {
	r := rand.New(rand.NewPCG(14, 5))
	for range 20000 {
		back(t, quality(min(drawnAngle(r), 60)))
		back(t, areas(drawnArea(r)))
		back(t, steiner(r.IntN(api.MaxPoints+2)-1))
	}
}

// A row that may be, parsed, printed and parsed again, asks for the same; what was
// printed is printed again.
func TestRowsBack(t *testing.T) {
	r := rand.New(rand.NewPCG(14, 6))
	count := 0
	for range 60000 {
		p, err := switches.Parse(drawnRow(r))
		if err != api.OK {
			continue
		}
		count++
		back(t, p)
		s, _ := switches.Print(p)
		again, _ := switches.Parse(s)
		if twice, err := switches.Print(again); twice != s || err != api.OK {
			t.Fatalf("%q is printed again as %q, %v", s, twice, err)
		}
	}
	if count < 5000 {
		t.Error("there are", count)
	}
}

// P14.4: the switches of a row in any other order ask for the same, or are refused
// with the same error.
func TestAnyOrder(t *testing.T) {
	r := rand.New(rand.NewPCG(14, 7))
	seen := map[api.Errno]int{}
	for range 20000 {
		all := rightSwitches(r)
		want, wantErr := parseAsked(t, strings.Join(all, ""))
		seen[wantErr]++
		for range 4 {
			r.Shuffle(len(all), func(i, j int) { all[i], all[j] = all[j], all[i] })
			row := one(r, []string{"", "-"}) + strings.Join(all, "")
			if p, err := switches.Parse(row); err != wantErr || !samePlan(p, want) {
				t.Fatalf("Parse(%q): %+v, %v, want %+v, %v", row, p, err, want, wantErr)
			}
		}
	}
	if seen[api.OK] < 300 || seen[api.ErrArg] < 100 || seen[api.ErrSwitch] < 5000 || seen[api.ErrForm] != 0 {
		t.Error("of the kinds there are", seen)
	}
}

// P14.4: of plans that may be, the switches that are printed, in any order.
func TestPrintedInAnyOrder(t *testing.T) {
	r := rand.New(rand.NewPCG(14, 8))
	for range 20000 {
		p := drawnRightPlan(r)
		s, err := switches.Print(p)
		if err != api.OK {
			t.Fatalf("Print(%+v): %v", p, err)
		}
		all := piece.FindAllString(s, -1)
		r.Shuffle(len(all), func(i, j int) { all[i], all[j] = all[j], all[i] })
		row := strings.Join(all, "")
		if again, err := switches.Parse(row); err != api.OK || again != p {
			t.Fatalf("Parse(%q): %+v, %v, want %+v", row, again, err, p)
		}
	}
}

// P14.4, on every order of a few switches.
func TestEveryOrder(t *testing.T) {
	for _, row := range []string{"p q30 a1b-3", "p a1b-1 a q", "p a a1 S5 o2", "a1 o2 q S0 D", "i F p q", "q61 c Y", "r l q5", "p q a5b1 a S7", "o2 q a1 z"} {
		all := strings.Fields(row)
		want, wantErr := parseAsked(t, strings.Join(all, ""))
		for _, order := range orders(all) {
			s := strings.Join(order, "")
			if p, err := switches.Parse(s); err != wantErr || !samePlan(p, want) {
				t.Errorf("Parse(%q): %+v, %v, want %+v, %v", s, p, err, want, wantErr)
			}
		}
	}
}

// orders are all orders of some texts.
func orders(all []string) [][]string {
	if len(all) < 2 {
		return [][]string{all}
	}
	var out [][]string
	for i, first := range all {
		for _, rest := range orders(slices.Delete(slices.Clone(all), i, i+1)) {
			out = append(out, append([]string{first}, rest...))
		}
	}
	return out
}
