package switches_test

import (
	"math"
	"math/rand/v2"
	"strconv"
	"strings"

	"trivet/api"
)

func one[T any](r *rand.Rand, l []T) T { return l[r.IntN(len(l))] }

// drawnNumber is a number's text, or something that is nearly one.
func drawnNumber(r *rand.Rand) string {
	if r.IntN(8) == 0 {
		return one(r, []string{"b", "-", "1b", "b1", "-1b", "01", "1b01", "-0", "1b-0", "--1", "1-", "1b2b3", "9007199254740993", "1b1024", "1b-1075", "9223372036854775808", "1b9223372036854775808"})
	}
	s := strconv.Itoa(r.IntN(70))
	if r.IntN(3) == 0 {
		s = strconv.FormatInt(r.Int64()>>r.IntN(64), 10)
	}
	if r.IntN(8) == 0 {
		s = "-" + s
	}
	if r.IntN(3) == 0 {
		s += "b" + strconv.Itoa(r.IntN(12)-8)
	}
	return s
}

func drawnCount(r *rand.Rand) string {
	if r.IntN(8) == 0 {
		return one(r, []string{"", "00", "01", "1b2", "-1", "1048576", "1048577", "9223372036854775807", "9223372036854775808"})
	}
	return strconv.Itoa(r.IntN(2000000) >> r.IntN(21))
}

// drawnSwitch is a switch, with a number or without one.
func drawnSwitch(r *rand.Rand) string {
	switch r.IntN(8) {
	case 0:
		return "q" + one(r, []string{"", drawnNumber(r)})
	case 1:
		return "a" + drawnNumber(r)
	case 2:
		return "S" + drawnCount(r)
	case 3:
		return one(r, []string{"i", "F"})
	}
	return one(r, flags).text
}

// drawnRow is a row; p stands in most, since much goes together with it alone.
func drawnRow(r *rand.Rand) string {
	row := one(r, []string{"", "", "-"}) + one(r, []string{"", "p", "p", "pD"})
	seen := map[string]bool{"p": strings.Contains(row, "p"), "D": strings.Contains(row, "D")}
	for range r.IntN(7) {
		x := drawnSwitch(r)
		if seen[kindOf(x)] && r.IntN(20) > 0 {
			continue
		}
		seen[kindOf(x)] = true
		row += x
	}
	return row
}

// rightSwitches are switches in any order, each of the form, each once; whether they go
// together is another thing.
func rightSwitches(r *rand.Rand) []string {
	var all []string
	for _, f := range flags {
		if r.IntN(3) == 0 {
			all = append(all, f.text)
		}
	}
	for _, x := range []string{"q" + one(r, []string{"", modelText(drawnAngle(r))}), "a" + modelText(drawnArea(r)), "S" + strconv.Itoa(r.IntN(1<<20)), "i", "F"} {
		if r.IntN(3) == 0 {
			all = append(all, x)
		}
	}
	r.Shuffle(len(all), func(i, j int) { all[i], all[j] = all[j], all[i] })
	return all
}

// drawnAngle lies from 0 to 60, now and then beyond.
func drawnAngle(r *rand.Rand) float64 {
	switch r.IntN(6) {
	case 0:
		return one(r, []float64{0, 60, 20, math.SmallestNonzeroFloat64, math.Nextafter(60, 0)})
	case 1:
		return float64(r.IntN(61))
	case 2:
		return float64(r.IntN(80*16)) / 16
	}
	return r.Float64() * 60
}

// drawnArea is above 0, of any exponent.
func drawnArea(r *rand.Rand) float64 {
	switch r.IntN(4) {
	case 0:
		return one(r, []float64{math.SmallestNonzeroFloat64, math.MaxFloat64, 1, 0x1p53, 0x1p53 - 1, 0x1p-1022, 0.1})
	case 1:
		return float64(1 + r.IntN(1000))
	case 2:
		return math.Ldexp(1+r.Float64(), r.IntN(40)-20)
	}
	return math.Float64frombits(1 + r.Uint64N(math.Float64bits(math.MaxFloat64)))
}

// drawnPlan is any plan; most of them may not be.
func drawnPlan(r *rand.Rand) api.Plan {
	p := api.Plan{Build: uint8(r.IntN(5)), Steiner: one(r, []int{-1, -1, -1, 0, 5, r.IntN(1 << 20), -2, 1<<20 + 1, int(r.Uint64())})}
	for _, f := range flags {
		if r.IntN(2) == 0 {
			setFlag(&p, f.field)
		}
	}
	p.Quality, p.Areas = r.IntN(2) == 0, r.IntN(2) == 0
	if p.Quality || r.IntN(8) == 0 {
		p.Angle = one(r, []float64{0, 5, drawnAngle(r), drawnAngle(r), -1, 61, math.NaN(), math.Inf(1)})
	}
	if p.Areas || r.IntN(8) == 0 {
		p.Area = one(r, []float64{1, 2, drawnArea(r), drawnArea(r), -1, math.Copysign(0, -1), math.NaN(), math.Inf(1)})
	}
	return p
}

// drawnRightPlan is a plan that may be.
func drawnRightPlan(r *rand.Rand) api.Plan {
	p := bare()
	for _, f := range flags {
		if r.IntN(2) == 0 {
			setFlag(&p, f.field)
		}
	}
	if p.Quality = r.IntN(2) == 0; p.Quality {
		p.Angle = min(drawnAngle(r), 60)
	}
	if p.Areas = r.IntN(2) == 0; p.Areas {
		p.Area = drawnArea(r)
	}
	if p.Each || p.Convex || p.NoHoles || p.Regions {
		p.Poly = true
	}
	if p.Whole && !p.Quality && !p.Areas && !p.Each {
		p.Delaunay = true
	}
	if (p.Quality || p.Areas || p.Each || p.Delaunay) && r.IntN(2) == 0 {
		p.Steiner = one(r, []int{0, 1, 1 << 20, r.IntN(1 << 20)})
	}
	if p.Again {
		p.Upright = false
	} else if !p.Upright {
		p.Build = one(r, []uint8{api.Divide, api.Sweep, api.Grow})
	}
	return p
}
