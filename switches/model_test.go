package switches_test

import (
	"math"
	"math/big"
	"reflect"
	"regexp"
	"slices"
	"strconv"
	"strings"
	"testing"

	"trivet/api"
	"trivet/switches"
)

// flag is a switch without a number, and the field that it sets to true.
type flag struct{ text, field string }

var flags = []flag{
	{"p", "Poly"}, {"r", "Again"}, {"a", "Each"}, {"D", "Delaunay"}, {"c", "Convex"}, {"O", "NoHoles"}, {"Y", "Whole"},
	{"l", "Upright"}, {"e", "Edges"}, {"n", "Near"}, {"v", "Voronoi"}, {"z", "Zero"}, {"o2", "Second"}, {"j", "Drop"}, {"A", "Regions"},
}

func setFlag(p *api.Plan, field string) { reflect.ValueOf(p).Elem().FieldByName(field).SetBool(true) }

func hasFlag(p api.Plan, field string) bool { return reflect.ValueOf(p).FieldByName(field).Bool() }

// bare is the plan without any switch.
func bare() api.Plan { return api.Plan{Build: api.Divide, Steiner: -1} }

// samePlan holds plans against each other to the last bit, so that 0 is no -0.
func samePlan(a, b api.Plan) bool {
	same := func(x, y float64) bool { return math.Float64bits(x) == math.Float64bits(y) }
	return a == b && same(a.Angle, b.Angle) && same(a.Area, b.Area)
}

var (
	piece = regexp.MustCompile(`q[0-9b-]*|a[0-9b-]*|S[0-9]*|o2|[prDcOYiFlenvzjA]`)
	float = regexp.MustCompile(`^(0|-?[1-9][0-9]*)(?:b(0|-?[1-9][0-9]*))?$`)
	whole = regexp.MustCompile(`^(0|[1-9][0-9]*)$`)
)

// modelInt is the whole number of some digits, if it has no more than 64 bits.
func modelInt(s string) (int64, bool) {
	n, ok := new(big.Int).SetString(s, 10)
	if !ok || !n.IsInt64() {
		return 0, false
	}
	return n.Int64(), true
}

// modelFloat is the float that is just what a text tells, reckoned by big.Float.
func modelFloat(s string) (float64, bool) {
	parts := float.FindStringSubmatch(s)
	if parts == nil {
		return 0, false
	}
	if parts[2] == "" {
		parts[2] = "0"
	}
	n, right := modelInt(parts[1])
	e, rightToo := modelInt(parts[2])
	if !right || !rightToo {
		return 0, false
	}
	if n == 0 {
		return 0, true
	}
	if e < -2000 || e > 2000 {
		return 0, false
	}
	x, how := new(big.Float).SetMantExp(new(big.Float).SetPrec(64).SetInt64(n), int(e)).Float64()
	return x, how == big.Exact && !math.IsInf(x, 0)
}

// kindOf tells which of the switches a piece of a row is, without its number; the
// two that have the letter a are told apart.
func kindOf(switchText string) string {
	if switchText[0] == 'a' && len(switchText) > 1 {
		return "a with a number"
	}
	return switchText[:1]
}

// modelRow is a row's plan, with the builders that it names; false, if it is no row.
func modelRow(s string) (p api.Plan, builders string, right bool) {
	p = bare()
	s = strings.TrimPrefix(s, "-")
	pieces := piece.FindAllString(s, -1)
	if strings.Join(pieces, "") != s {
		return api.Plan{}, "", false
	}
	seen := map[string]bool{}
	for _, x := range pieces {
		if seen[kindOf(x)] || !modelSwitch(&p, x) {
			return api.Plan{}, "", false
		}
		seen[kindOf(x)] = true
		if x == "i" || x == "F" {
			builders += x
		}
	}
	return p, builders, true
}

// modelSwitch does what a switch says, but for the builders.
func modelSwitch(p *api.Plan, x string) bool {
	var right bool
	switch number := x[1:]; {
	case x[0] == 'q':
		p.Quality, p.Angle, right = true, 20, true
		if number != "" {
			p.Angle, right = modelFloat(number)
		}
		return right
	case x[0] == 'a' && number != "":
		p.Areas = true
		p.Area, right = modelFloat(number)
		return right
	case x[0] == 'S':
		n, fits := modelInt(number)
		p.Steiner = int(n)
		return fits && whole.MatchString(number)
	case x == "i":
		p.Build = api.Grow
	case x == "F":
		p.Build = api.Sweep
	default:
		setFlag(p, flags[slices.IndexFunc(flags, func(f flag) bool { return f.text == x })].field)
	}
	return true
}

// modelParse is what Parse is to answer.
func modelParse(s string) (api.Plan, api.Errno) {
	p, builders, right := modelRow(s)
	if !right {
		return api.Plan{}, api.ErrForm
	}
	if len(builders) == 2 {
		return api.Plan{}, api.ErrSwitch
	}
	if err := modelCheck(p); err != api.OK {
		return api.Plan{}, err
	}
	return p, api.OK
}

// modelCheck goes over the chapter's table, one thing that is wrong behind the other.
func modelCheck(p api.Plan) api.Errno {
	divide := p.Build == api.Divide
	for _, x := range []struct {
		wrong bool
		err   api.Errno
	}{
		{math.IsNaN(p.Angle) || math.IsNaN(p.Area), api.ErrArg},
		{p.Angle < 0 || p.Angle > 60, api.ErrArg},
		{p.Angle != 0 && !p.Quality, api.ErrArg},
		{p.Areas && (p.Area <= 0 || p.Area > math.MaxFloat64), api.ErrArg},
		{!p.Areas && p.Area != 0, api.ErrArg},
		{p.Steiner < -1 || p.Steiner > 1048576, api.ErrArg},
		{p.Build < 1 || p.Build > 3, api.ErrArg},
		{p.Upright && !divide, api.ErrSwitch},
		{p.Again && (!divide || p.Upright), api.ErrSwitch},
		{!p.Poly && (p.Each || p.Convex || p.NoHoles || p.Regions), api.ErrSwitch},
		{(p.Whole || p.Steiner >= 0) && !(p.Quality || p.Areas || p.Each || p.Delaunay), api.ErrSwitch},
	} {
		if x.wrong {
			return x.err
		}
	}
	return api.OK
}

// modelText is a float's text: the shortest n, b, e that tells it.
func modelText(x float64) string {
	if x == math.Trunc(x) && math.Abs(x) < 0x1p53 {
		return strconv.FormatInt(int64(x), 10)
	}
	var mantissa big.Float
	e := new(big.Float).SetFloat64(x).MantExp(&mantissa)
	size := int(mantissa.MinPrec())
	n, _ := mantissa.SetMantExp(&mantissa, size).Int(nil)
	return n.String() + "b" + strconv.Itoa(e-size)
}

// modelPrint is what Print is to answer, each switch found by its letter.
func modelPrint(p api.Plan) (string, api.Errno) {
	if err := modelCheck(p); err != api.OK {
		return "", err
	}
	var text strings.Builder
	for _, letter := range strings.Fields("p r q a# a D c O Y S i F l e n v z o2 j A") {
		number := ""
		var asked bool
		switch letter {
		case "q":
			asked, number = p.Quality, modelText(p.Angle)
		case "a#":
			asked, number = p.Areas, modelText(p.Area)
		case "S":
			asked, number = p.Steiner >= 0, strconv.Itoa(p.Steiner)
		case "i":
			asked = p.Build == api.Grow
		case "F":
			asked = p.Build == api.Sweep
		default:
			asked = hasFlag(p, flags[slices.IndexFunc(flags, func(f flag) bool { return f.text == letter })].field)
		}
		if asked {
			text.WriteString(strings.TrimSuffix(letter, "#") + number)
		}
	}
	return text.String(), api.OK
}

// parseAsked holds Parse against the model, and tells what it answered.
func parseAsked(t *testing.T, s string) (api.Plan, api.Errno) {
	t.Helper()
	p, err := switches.Parse(s)
	want, wantErr := modelParse(s)
	if err != wantErr || !samePlan(p, want) {
		t.Errorf("Parse(%.200q): %+v, %v, want %+v, %v", s, p, err, want, wantErr)
	}
	return p, err
}

// planAsked holds Check and Print against the model, and tells what they answered.
func planAsked(t *testing.T, p api.Plan) (string, api.Errno) {
	t.Helper()
	if err, want := switches.Check(p), modelCheck(p); err != want {
		t.Errorf("Check(%+v): %v, want %v", p, err, want)
	}
	s, err := switches.Print(p)
	if want, wantErr := modelPrint(p); s != want || err != wantErr {
		t.Errorf("Print(%+v): %q, %v, want %q, %v", p, s, err, want, wantErr)
	}
	return s, err
}

// refused tells that a row is refused, with nothing beside the error (R4).
func refused(t *testing.T, s string, want api.Errno) {
	t.Helper()
	if p, err := switches.Parse(s); err != want || !samePlan(p, api.Plan{}) {
		t.Errorf("Parse(%.200q): %+v, %v, want %v", s, p, err, want)
	}
	parseAsked(t, s)
}

// planRefused tells that a plan is refused by both calls, with nothing beside the
// error (R4).
func planRefused(t *testing.T, p api.Plan, want api.Errno) {
	t.Helper()
	if err := switches.Check(p); err != want {
		t.Errorf("Check(%+v): %v, want %v", p, err, want)
	}
	if s, err := switches.Print(p); s != "" || err != want {
		t.Errorf("Print(%+v): %q, %v, want %v", p, s, err, want)
	}
	planAsked(t, p)
}

// taken tells that a row asks for a plan.
func taken(t *testing.T, s string, want api.Plan) {
	t.Helper()
	if p, err := switches.Parse(s); err != api.OK || !samePlan(p, want) {
		t.Errorf("Parse(%q): %+v, %v, want %+v", s, p, err, want)
	}
	parseAsked(t, s)
}

// printed tells that a plan may be, and is printed as a text.
func printed(t *testing.T, p api.Plan, want string) {
	t.Helper()
	if err := switches.Check(p); err != api.OK {
		t.Errorf("Check(%+v): %v", p, err)
	}
	if s, err := switches.Print(p); s != want || err != api.OK {
		t.Errorf("Print(%+v): %q, %v, want %q", p, s, err, want)
	}
	planAsked(t, p)
}
