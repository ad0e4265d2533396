package repair_test

import (
	"math"
	"math/bits"
	"math/rand"
	"slices"
	"testing"

	"solvent/api"
	"solvent/erasure"
	"solvent/repair"
)

// lrc returns the code of the chapter's examples.
func lrc() api.Code {
	return api.Code{Field: 8, Data: 4, Parity: [][]int{{1, 1, 0, 0}, {0, 0, 1, 1}, {1, 2, 4, 8}}}
}

// without returns the list of n units that are present but for some.
func without(n int, missing ...int) []bool {
	have := slices.Repeat([]bool{true}, n)
	for _, unit := range missing {
		have[unit] = false
	}
	return have
}

// samePlan reports whether a plan has this unit and these terms.
func samePlan(p api.Plan, unit int, terms []api.Term) bool {
	return p.Unit == unit && slices.Equal(p.Terms, terms)
}

// checkChecks checks Checks.
func checkChecks(t *testing.T, c api.Code, unit int, want ...[]int) {
	t.Helper()
	if got := repair.Checks(c, unit); !slices.EqualFunc(got, want, slices.Equal[[]int]) {
		t.Fatalf("P10.1: Checks(%v, %d) = %v, want %v", c, unit, got, want)
	}
}

// checkPlan checks a plan.
func checkPlan(t *testing.T, c api.Code, have []bool, unit int, want ...api.Term) {
	t.Helper()
	got, e := repair.Plan(c, have, unit)
	if e != api.OK || !samePlan(got, unit, want) {
		t.Fatalf("P10.2: Plan(%v, %v, %d) = %v, %d, want the terms %v", c, have, unit, got, e, want)
	}
}

// planRefused checks that Plan returns an error.
func planRefused(t *testing.T, c api.Code, have []bool, unit int, want api.Errno) {
	t.Helper()
	if got, e := repair.Plan(c, have, unit); e != want || !samePlan(got, 0, nil) {
		t.Fatalf("P10.2: Plan(%v, %v, %d) = %v, %d, want the error %d", c, have, unit, got, e, want)
	}
}

// allRefused checks that All returns an error.
func allRefused(t *testing.T, c api.Code, have []bool, want api.Errno) {
	t.Helper()
	if got, e := repair.All(c, have); e != want || len(got) != 0 {
		t.Fatalf("P10.3: All(%v, %v) = %v, %d, want the error %d", c, have, got, e, want)
	}
}

// checkApply checks a sum.
func checkApply(t *testing.T, c api.Code, p api.Plan, units []string, want string) {
	t.Helper()
	if got, e := repair.Apply(c, p, units); e != api.OK || got != want {
		t.Fatalf("P10.5: Apply(%v, %v, %q) = %q, %d, want %q", c, p, units, got, e, want)
	}
}

// applyRefused checks that Apply returns the error.
func applyRefused(t *testing.T, c api.Code, p api.Plan, units []string) {
	t.Helper()
	if got, e := repair.Apply(c, p, units); e != api.ErrArg || got != "" {
		t.Fatalf("P10.5: Apply(%v, %v, %q) = %q, %d, want the error %d", c, p, units, got, e, api.ErrArg)
	}
}

func TestExamples(t *testing.T) {
	c := lrc()
	checkChecks(t, c, 2, []int{2, 3, 5}, []int{0, 1, 2, 3, 6})
	checkPlan(t, c, without(7, 2), 2, api.Term{Unit: 3, Coef: 1}, api.Term{Unit: 5, Coef: 1})
	p, e := repair.Plan(c, without(7, 2, 3), 2)
	if got := repair.Reads(p); e != api.OK || !slices.Equal(got, []int{0, 1, 5, 6}) {
		t.Errorf("P10.4: Reads(%v) = %v, and the error of Plan is %d", p, got, e)
	}
	planRefused(t, c, without(7, 2, 3, 5), 2, api.ErrLost)
}

func TestChecks(t *testing.T) {
	c := lrc()
	checkChecks(t, c, 0, []int{0, 1, 4}, []int{0, 1, 2, 3, 6})
	checkChecks(t, c, 3, []int{2, 3, 5}, []int{0, 1, 2, 3, 6})
	checkChecks(t, c, 4, []int{0, 1, 4})
	checkChecks(t, c, 6, []int{0, 1, 2, 3, 6})
	c = api.Code{Field: 16, Data: 3, Parity: [][]int{{0, 65535, 0}, {0, 7, 2}, {0, 65535, 0}}}
	checkChecks(t, c, 0)
	checkChecks(t, c, 1, []int{1, 3}, []int{1, 2, 4}, []int{1, 5})
	checkChecks(t, c, 2, []int{1, 2, 4})
	checkChecks(t, c, 3, []int{1, 3})
	checkChecks(t, c, 5, []int{1, 5})
	r := rand.New(rand.NewSource(1))
	for _, m := range sizes {
		for range 200 {
			c := anyWidth(r, m)
			for unit := range width(c) {
				var want [][]int
				for _, set := range checksOf(c, unit) {
					want = append(want, unitsOf(set))
				}
				checkChecks(t, c, unit, want...)
			}
		}
	}
}

// invalid returns codes that are not valid, each for one reason.
func invalid() []api.Code {
	l := []api.Code{{}, {Data: 1}, {Field: 8}, {Field: 8, Parity: [][]int{{}}}, {Field: 16, Parity: [][]int{{1}}}}
	for _, m := range []int{0, 1, 4, 7, 9, 15, 17, 32, -8, 1<<32 + 8, math.MaxInt, math.MinInt} {
		l = append(l, api.Code{Field: m, Data: 1}, api.Code{Field: m, Data: 2, Parity: [][]int{{1, 1}}})
	}
	for _, m := range sizes {
		for _, n := range []int{-1, -2, 0, 33, 64, math.MaxInt, math.MaxInt - 1, math.MinInt, math.MinInt + 1} {
			l = append(l, api.Code{Field: m, Data: n}, api.Code{Field: m, Data: n, Parity: [][]int{{1}}})
		}
		for data := 1; data <= 34; data++ {
			row := slices.Repeat([]int{1}, data)
			l = append(l, api.Code{Field: m, Data: data, Parity: slices.Repeat([][]int{row}, max(33-data, 1))})
		}
		for _, row := range [][]int{nil, {}, {1}, {1, 1, 1}, {0, 0}, {1, 1 << m}, {-1, 1}, {math.MinInt, 0}, {1, math.MaxInt}} {
			l = append(l, api.Code{Field: m, Data: 2, Parity: [][]int{row}})
			l = append(l, api.Code{Field: m, Data: 2, Parity: [][]int{row, {1, 1}}})
			l = append(l, api.Code{Field: m, Data: 2, Parity: [][]int{{1, 1}, row}})
		}
	}
	return l
}

// codeRefused checks that a code is not valid for any function, with lists of n units.
func codeRefused(t *testing.T, c api.Code, n int) {
	t.Helper()
	have, units := slices.Repeat([]bool{true}, n), make([]string, n)
	for unit := -1; unit <= n; unit++ {
		checkChecks(t, c, unit)
		for _, present := range []bool{false, true} {
			planRefused(t, c, slices.Repeat([]bool{present}, n), unit, api.ErrArg)
		}
		if unit >= 0 && unit < n {
			have[unit] = false
			planRefused(t, c, have, unit, api.ErrArg)
			allRefused(t, c, have, api.ErrArg)
			have[unit] = true
		}
		applyRefused(t, c, api.Plan{Unit: unit, Terms: []api.Term{{Unit: 0, Coef: 1}}}, units)
		applyRefused(t, c, api.Plan{Unit: unit}, units)
	}
	allRefused(t, c, have, api.ErrArg)
	allRefused(t, c, make([]bool, n), api.ErrArg)
}

func TestInvalidCodes(t *testing.T) {
	for i, c := range invalid() {
		if erasure.Valid(c) {
			t.Fatalf("code %d of the test is valid: %v", i, c)
		}
		for _, n := range []int{0, 1, 2, 3, 4, 32, 33, 34, 35} {
			codeRefused(t, c, n)
		}
	}
}

// TestCodesWithoutNames tests that codes are valid here whatever their names and domains are, although package codelang would
// not accept them.
func TestCodesWithoutNames(t *testing.T) {
	c := lrc()
	for _, name := range []string{"", "lrc", "No name", "abcdefghijklm"} {
		for _, domain := range []int{0, 1, 7, 8, -1, math.MaxInt, math.MinInt} {
			c.Name, c.Domain = name, domain
			checkChecks(t, c, 4, []int{0, 1, 4})
			checkPlan(t, c, without(7, 0), 0, api.Term{Unit: 1, Coef: 1}, api.Term{Unit: 4, Coef: 1})
			if l, e := repair.All(c, without(7, 0, 5)); e != api.OK || len(l) != 2 {
				t.Fatalf("P10.3: All = %v, %d", l, e)
			}
			checkApply(t, c, api.Plan{Terms: []api.Term{{Unit: 1, Coef: 2}}}, slices.Repeat([]string{"\x04"}, 7), "\x08")
		}
	}
}

// TestNoParity tests codes of data units only.
func TestNoParity(t *testing.T) {
	for _, m := range sizes {
		for _, n := range []int{1, 2, 31, 32} {
			c := api.Code{Field: m, Data: n}
			for unit := range n {
				checkChecks(t, c, unit)
				planRefused(t, c, without(n), unit, api.ErrLost)
				planRefused(t, c, without(n, unit), unit, api.ErrLost)
				planRefused(t, c, make([]bool, n), unit, api.ErrLost)
				allRefused(t, c, without(n, unit), api.ErrLost)
			}
			if l, e := repair.All(c, without(n)); e != api.OK || len(l) != 0 {
				t.Fatalf("P10.3: All(%v, all units) = %v, %d", c, l, e)
			}
			units := slices.Repeat([]string{"ab"}, n)
			checkApply(t, c, api.Plan{Unit: n - 1, Terms: []api.Term{{Unit: n - 1, Coef: 1}}}, units, "ab")
		}
	}
}

// TestCoefficients tests the coefficients of small codes that are computed by hand: 142 and 34821 are the inverses of 2, and 244
// is that of 3.
func TestCoefficients(t *testing.T) {
	c := api.Code{Field: 8, Data: 2, Parity: [][]int{{2, 3}, {0, 3}}}
	checkPlan(t, c, without(4, 0), 0, api.Term{Unit: 1, Coef: 143}, api.Term{Unit: 2, Coef: 142})
	checkPlan(t, c, without(4, 1), 1, api.Term{Unit: 3, Coef: 244})
	checkPlan(t, c, without(4, 1, 3), 1, api.Term{Unit: 0, Coef: 245}, api.Term{Unit: 2, Coef: 244})
	checkPlan(t, c, without(4, 2), 2, api.Term{Unit: 0, Coef: 2}, api.Term{Unit: 1, Coef: 3})
	checkPlan(t, c, without(4, 3), 3, api.Term{Unit: 1, Coef: 3})
	checkPlan(t, c, without(4, 0, 1), 0, api.Term{Unit: 2, Coef: 142}, api.Term{Unit: 3, Coef: 142})
	checkPlan(t, c, without(4, 1, 2), 2, api.Term{Unit: 0, Coef: 2}, api.Term{Unit: 3, Coef: 1})
	planRefused(t, c, without(4, 0, 2), 0, api.ErrLost)
	c.Field = 16
	checkPlan(t, c, without(4, 0), 0, api.Term{Unit: 1, Coef: 34820}, api.Term{Unit: 2, Coef: 34821})
	checkPlan(t, c, without(4, 2), 2, api.Term{Unit: 0, Coef: 2}, api.Term{Unit: 1, Coef: 3})
	checkPlan(t, c, without(4, 0, 1), 0, api.Term{Unit: 2, Coef: 34821}, api.Term{Unit: 3, Coef: 34821})
}

// TestChoice tests which candidate is chosen. All coefficients are 1.
func TestChoice(t *testing.T) {
	for i, x := range []struct {
		parity  [][]int
		missing []int
		unit    int
		want    []int
	}{
		// The second check has the smaller first read, and then it cannot be used.
		{[][]int{{1, 0, 1, 0}, {1, 1, 0, 0}, {1, 1, 1, 1}}, []int{0}, 0, []int{1, 5}},
		{[][]int{{1, 0, 1, 0}, {1, 1, 0, 0}, {1, 1, 1, 1}}, []int{0, 1}, 0, []int{2, 4}},
		{[][]int{{1, 0, 1, 0}, {1, 1, 0, 0}, {1, 1, 1, 1}}, []int{0, 5}, 0, []int{2, 4}},
		// The shorter check is the later one, though its reads are greater.
		{[][]int{{1, 1, 1, 0}, {1, 0, 0, 1}}, []int{0}, 0, []int{3, 5}},
		{[][]int{{1, 1, 1, 0}, {1, 0, 0, 1}}, []int{0, 3}, 0, []int{1, 2, 4}},
		// The combination has as many terms as a check, and smaller reads.
		{[][]int{{1, 1, 0, 0, 0}, {0, 1, 1, 0, 0}, {1, 0, 0, 1, 1}}, []int{0, 1}, 0, []int{2, 5, 6}},
		// It has as many terms, and greater reads.
		{[][]int{{1, 1, 0, 0, 0}, {0, 1, 0, 1, 0}, {1, 0, 1, 0, 1}}, []int{0, 1}, 0, []int{2, 4, 7}},
		// It has fewer terms than the only check.
		{[][]int{{1, 1, 1, 1, 1, 1}, {0, 1, 1, 1, 1, 1}, {1, 0, 1, 1, 1, 1}}, []int{0, 1}, 0, []int{6, 7}},
		// It has more terms than the check.
		{[][]int{{1, 1, 0, 0, 0}, {0, 1, 1, 0, 0}, {1, 0, 0, 1, 0}}, []int{0, 1}, 0, []int{3, 7}},
		// No check can be used.
		{[][]int{{1, 1, 0}, {0, 1, 1}}, []int{0, 1}, 0, []int{2, 3, 4}},
		{[][]int{{1, 1, 1}, {1, 1, 1}}, []int{0, 3}, 3, []int{4}},
		// There would be plans with fewer reads that are not candidates.
		{[][]int{{1, 1, 1}, {1, 1, 1}}, []int{3}, 3, []int{0, 1, 2}},
		{[][]int{{0, 1, 1, 1}, {1, 1, 1, 1}}, []int{0}, 0, []int{1, 2, 3, 5}},
		// Numbers are compared, not their digits.
		{[][]int{{1, 0, 0, 0, 0, 0, 0, 0, 0, 0, 1}, {1, 0, 0, 0, 0, 0, 0, 0, 0, 1, 0}}, []int{0}, 0, []int{9, 12}},
	} {
		c := api.Code{Field: 8, Data: len(x.parity[0]), Parity: x.parity}
		for _, m := range sizes {
			c.Field = m
			have := without(width(c), x.missing...)
			var want []api.Term
			for _, unit := range x.want {
				want = append(want, api.Term{Unit: unit, Coef: 1})
			}
			if got, e := repair.Plan(c, have, x.unit); e != api.OK || !samePlan(got, x.unit, want) {
				t.Errorf("P10.2: case %d: Plan(%v, %v, %d) = %v, %d, want the reads %v", i, c, have, x.unit, got, e, x.want)
			}
			have[x.unit] = true // it is ignored
			if got, e := repair.Plan(c, have, x.unit); e != api.OK || !samePlan(got, x.unit, want) {
				t.Errorf("P10.2: case %d: Plan(%v, %v, %d) = %v, %d with the unit itself", i, c, have, x.unit, got, e)
			}
		}
	}
}

// checkAgainst checks the plans for all units, if some are present, against the reference.
func checkAgainst(t *testing.T, c api.Code, present int) {
	t.Helper()
	have := flags(width(c), present)
	var want []api.Plan
	lost := false
	for unit := range have {
		terms, ok := planned(c, present, unit)
		if ok {
			checkPlan(t, c, have, unit, terms...)
		} else {
			planRefused(t, c, have, unit, api.ErrLost)
		}
		if !have[unit] {
			want = append(want, api.Plan{Unit: unit, Terms: terms})
			lost = lost || !ok
		}
	}
	if lost {
		allRefused(t, c, have, api.ErrLost)
		return
	}
	got, e := repair.All(c, have)
	same := slices.EqualFunc(got, want, func(a, b api.Plan) bool { return samePlan(a, b.Unit, b.Terms) })
	if e != api.OK || !same {
		t.Fatalf("P10.3: All(%v, %v) = %v, %d, want %v", c, have, got, e, want)
	}
}

// TestSmallCodes tests all sets of present units.
func TestSmallCodes(t *testing.T) {
	r := rand.New(rand.NewSource(2))
	for _, m := range sizes {
		for _, x := range [][3]int{{1, 0, 1}, {1, 1, 2}, {1, 3, 4}, {2, 1, 6}, {2, 3, 12}, {3, 3, 20}, {3, 5, 4}, {4, 3, 12}, {4, 4, 4}, {6, 2, 4}} {
			for range x[2] {
				c := anyCode(r, m, x[0], x[1])
				for present := range bit(width(c)) {
					checkAgainst(t, c, present)
				}
			}
		}
	}
}

func TestLargeCodes(t *testing.T) {
	r := rand.New(rand.NewSource(3))
	for _, m := range sizes {
		for range 250 {
			c := anyWidth(r, m)
			checkAgainst(t, c, fewMissing(r, width(c)))
		}
		// With many rows there are many checks to choose from.
		for range 60 {
			data := 3 + r.Intn(8)
			c := anyCode(r, m, data, api.MaxWidth-data)
			checkAgainst(t, c, fewMissing(r, width(c)))
		}
	}
}

func TestNoUnit(t *testing.T) {
	r := rand.New(rand.NewSource(4))
	for _, m := range sizes {
		for range 60 {
			c := anyWidth(r, m)
			n := width(c)
			for _, unit := range []int{-1, -2, n, n + 1, 32, 33, 64, math.MaxInt, math.MinInt} {
				if unit >= 0 && unit < n {
					continue
				}
				checkChecks(t, c, unit)
				planRefused(t, c, without(n), unit, api.ErrArg)
				planRefused(t, c, make([]bool, n), unit, api.ErrArg)
				units, terms := make([]string, n), []api.Term{{Unit: 0, Coef: 1}}
				checkApply(t, c, api.Plan{Terms: terms}, units, "")
				applyRefused(t, c, api.Plan{Unit: unit, Terms: terms}, units)
				applyRefused(t, c, api.Plan{Terms: []api.Term{{Unit: unit, Coef: 1}}}, units)
				applyRefused(t, c, api.Plan{Terms: []api.Term{{Unit: 0, Coef: 1}, {Unit: unit, Coef: 0}}}, units)
			}
		}
	}
}

func TestWrongLists(t *testing.T) {
	r := rand.New(rand.NewSource(5))
	for _, m := range sizes {
		for range 60 {
			c := anyWidth(r, m)
			for _, n := range []int{0, 1, c.Data, width(c) - 1, width(c) + 1, 32, 33, 64, 1000} {
				if n == width(c) {
					continue
				}
				for _, present := range []bool{false, true} {
					have := slices.Repeat([]bool{present}, n)
					for _, unit := range []int{-1, 0, width(c) - 1, width(c), n - 1, n} {
						planRefused(t, c, have, unit, api.ErrArg)
					}
					allRefused(t, c, have, api.ErrArg)
				}
				applyRefused(t, c, api.Plan{Terms: []api.Term{{Unit: 0, Coef: 1}}}, make([]string, n))
			}
		}
	}
}

func TestAll(t *testing.T) {
	c := lrc()
	l, e := repair.All(c, without(7, 6, 2, 0))
	want := []api.Plan{
		{Unit: 0, Terms: []api.Term{{Unit: 1, Coef: 1}, {Unit: 4, Coef: 1}}},
		{Unit: 2, Terms: []api.Term{{Unit: 3, Coef: 1}, {Unit: 5, Coef: 1}}},
		// The data units 0 and 2 are missing: unit 6 is 1 + 2 + 4 + 8 times what remains of them.
		{Unit: 6, Terms: []api.Term{{Unit: 1, Coef: 3}, {Unit: 3, Coef: 12}, {Unit: 4, Coef: 1}, {Unit: 5, Coef: 4}}},
	}
	if e != api.OK || !slices.EqualFunc(l, want, func(a, b api.Plan) bool { return samePlan(a, b.Unit, b.Terms) }) {
		t.Errorf("P10.3: All = %v, %d, want %v", l, e, want)
	}
	if l, e := repair.All(c, without(7)); e != api.OK || len(l) != 0 {
		t.Errorf("P10.3: All = %v, %d, and no unit is missing", l, e)
	}
	allRefused(t, c, without(7, 0, 1, 2, 3), api.ErrLost)
	// There are plans for the units 0 and 4 only.
	lost := api.Code{Field: 8, Data: 3, Parity: [][]int{{0, 1, 1}, {1, 0, 0}, {2, 0, 0}}}
	allRefused(t, lost, without(6, 0, 1, 2, 4), api.ErrLost)
	allRefused(t, lost, make([]bool, 6), api.ErrLost)
	allRefused(t, c, without(6), api.ErrArg)
	allRefused(t, c, without(8), api.ErrArg)
	allRefused(t, api.Code{}, nil, api.ErrArg)
	c.Parity[2][3] = 256
	allRefused(t, c, without(7), api.ErrArg)
}

func TestReads(t *testing.T) {
	for _, units := range [][]int{nil, {0}, {3, 1, 2}, {5, 5, 0, 5}, {-1, 32, math.MaxInt, math.MinInt}, {1 << 40, 7, 7}} {
		for _, unit := range []int{0, 5, -1, 99} {
			for _, coef := range []int{0, 1, -1, math.MaxInt} {
				p := api.Plan{Unit: unit}
				for _, read := range units {
					p.Terms = append(p.Terms, api.Term{Unit: read, Coef: coef})
				}
				if got := repair.Reads(p); !slices.Equal(got, units) {
					t.Fatalf("P10.4: Reads(%v) = %v", p, got)
				}
			}
		}
	}
	r := rand.New(rand.NewSource(6))
	p := api.Plan{Terms: make([]api.Term, 5000)}
	want := make([]int, len(p.Terms))
	for i := range want {
		want[i] = r.Int()
		p.Terms[i] = api.Term{Unit: want[i], Coef: i}
	}
	if got := repair.Reads(p); !slices.Equal(got, want) {
		t.Fatalf("P10.4: Reads of 5000 terms")
	}
}

// anyPlan returns a plan that Apply accepts, but that need not be one of Plan: its terms have any order, units and coefficients.
func anyPlan(r *rand.Rand, c api.Code, terms int) api.Plan {
	p := api.Plan{Unit: r.Intn(width(c))}
	for range terms {
		coef := []int{0, 1, 2, 1<<c.Field - 1, r.Intn(1 << c.Field)}[r.Intn(5)]
		p.Terms = append(p.Terms, api.Term{Unit: r.Intn(width(c)), Coef: coef})
	}
	return p
}

// TestApply tests sums with units that do not form a stripe; those that are not read have other lengths.
func TestApply(t *testing.T) {
	r := rand.New(rand.NewSource(7))
	for _, m := range sizes {
		for range 400 {
			c := anyWidth(r, m)
			p := anyPlan(r, c, 1+r.Intn(40))
			units := randomUnits(r, m, width(c), 5)
			for i := range units {
				if !slices.Contains(repair.Reads(p), i) {
					units[i] = randomUnits(r, 8, 1, 11)[0]
				}
			}
			checkApply(t, c, p, units, sum(m, p.Terms, units))
		}
		c := anyCode(r, m, 5, 3)
		p, units := anyPlan(r, c, 3000), randomUnits(r, m, 8, 4)
		checkApply(t, c, p, units, sum(m, p.Terms, units))
	}
	c := lrc()
	checkApply(t, c, api.Plan{Unit: 2, Terms: []api.Term{{Unit: 2, Coef: 3}}}, make([]string, 7), "")
	checkApply(t, c, api.Plan{Unit: 6, Terms: []api.Term{{Unit: 5, Coef: 1}, {Unit: 5, Coef: 1}}}, slices.Repeat([]string{"abc"}, 7), "\x00\x00\x00")
}

// TestApplyRefuses tests the errors that depend on the terms and the units that are read.
func TestApplyRefuses(t *testing.T) {
	c, units := lrc(), slices.Repeat([]string{"abcd"}, 7)
	one := func(unit, coef int) api.Plan { return api.Plan{Terms: []api.Term{{Unit: unit, Coef: coef}}} }
	applyRefused(t, c, api.Plan{}, units)
	applyRefused(t, c, api.Plan{Unit: 3, Terms: []api.Term{}}, units)
	for _, m := range sizes {
		c.Field = m
		checkApply(t, c, one(6, 0), units, "\x00\x00\x00\x00")
		for _, coef := range []int{-1, 1 << m, 1<<m + 1, math.MaxInt, math.MinInt} {
			applyRefused(t, c, one(0, coef), units)
			applyRefused(t, c, api.Plan{Terms: []api.Term{{Unit: 0, Coef: 1}, {Unit: 1, Coef: coef}}}, units)
			applyRefused(t, c, api.Plan{Terms: []api.Term{{Unit: 0, Coef: coef}, {Unit: 1, Coef: 1}}}, units)
		}
		for _, unit := range []string{"", "ab", "abc", "abcde", "abcdef"} {
			units[4] = unit
			two := api.Plan{Unit: 4, Terms: []api.Term{{Unit: 0, Coef: 1}, {Unit: 1, Coef: 1}}}
			checkApply(t, c, two, units, "\x00\x00\x00\x00")
			for i := range two.Terms {
				for _, coef := range []int{0, 1} {
					wrong := api.Plan{Unit: 4, Terms: slices.Clone(two.Terms)}
					wrong.Terms[i] = api.Term{Unit: 4, Coef: coef}
					applyRefused(t, c, wrong, units)
				}
			}
			if len(unit)%(m/8) == 0 {
				checkApply(t, c, one(4, 1), units, unit)
			} else {
				applyRefused(t, c, one(4, 1), units)
			}
		}
	}
	c.Field = 8
	checkApply(t, c, one(0, 255), slices.Repeat([]string{"\x01"}, 7), "\xff")
	c.Field = 16
	checkApply(t, c, one(0, 256), slices.Repeat([]string{"\x00\x01"}, 7), "\x01\x00")
}

// checkReads checks what P10.6 and P10.7 say about the reads of a plan.
func checkReads(t *testing.T, c api.Code, have []bool, p api.Plan) {
	t.Helper()
	reads := repair.Reads(p)
	if len(reads) > c.Data || len(slices.Compact(slices.Sorted(slices.Values(reads)))) != len(reads) {
		t.Fatalf("P10.6: the plan %v of %v", p, c)
	}
	for _, term := range p.Terms {
		if term.Unit == p.Unit || !have[term.Unit] || term.Coef == 0 {
			t.Fatalf("P10.6: the plan %v of %v, and only %v are present", p, c, have)
		}
	}
	for _, check := range checksOf(c, p.Unit) {
		others := check &^ bit(p.Unit)
		if others&^setOf(have) == 0 && bits.OnesCount(uint(others)) < len(reads) {
			t.Fatalf("P10.7: the plan %v of %v, and all of %v are present", p, c, unitsOf(others))
		}
	}
}

// TestStripes tests that plans rebuild the units of stripes, whatever the units that are not read contain.
func TestStripes(t *testing.T) {
	r := rand.New(rand.NewSource(8))
	for _, m := range sizes {
		for range 250 {
			c := anyWidth(r, m)
			data := randomUnits(r, m, c.Data, 4)
			original, e := erasure.Encode(c, data)
			if e != api.OK || !slices.Equal(original, stripe(c, data)) {
				t.Fatalf("P8.2: Encode(%v, %q) = %q, %d", c, data, original, e)
			}
			have := flags(width(c), fewMissing(r, width(c)))
			for unit := range have {
				p, e := repair.Plan(c, have, unit)
				others := slices.Clone(have)
				others[unit] = false
				if recoverable := erasure.Recoverable(c, others, unit); recoverable != (e == api.OK) {
					t.Fatalf("P10.7: Plan(%v, %v, %d) = %v, %d, and the unit is recoverable: %v", c, have, unit, p, e, recoverable)
				}
				if e != api.OK {
					continue
				}
				checkReads(t, c, others, p)
				units := randomUnits(r, 8, width(c), 9)
				for _, read := range repair.Reads(p) {
					units[read] = original[read]
				}
				checkApply(t, c, p, units, original[unit])
			}
		}
	}
}

// TestRebuilds tests that the plans of All rebuild the missing units of a stripe.
func TestRebuilds(t *testing.T) {
	r := rand.New(rand.NewSource(9))
	rebuilt := 0
	for _, m := range sizes {
		for range 250 {
			c := anyWidth(r, m)
			original := stripe(c, randomUnits(r, m, c.Data, 4))
			have := flags(width(c), fewMissing(r, width(c)))
			units := slices.Clone(original)
			for unit, present := range have {
				if !present {
					units[unit] = "lost"
				}
			}
			plans, e := repair.All(c, have)
			if e == api.OK != erasure.Decodable(c, have) {
				t.Fatalf("P10.7: All(%v, %v) returned the error %d", c, have, e)
			}
			for _, p := range plans {
				checkReads(t, c, have, p)
				checkApply(t, c, p, units, original[p.Unit])
				rebuilt++
			}
		}
	}
	if rebuilt < 300 {
		t.Errorf("only %d units were rebuilt", rebuilt)
	}
}

// TestMemory tests that calls do not change their arguments, and that results share no memory with them or with one another.
func TestMemory(t *testing.T) {
	r := rand.New(rand.NewSource(10))
	for _, m := range sizes {
		for range 60 {
			c := anyWidth(r, m)
			have, units := flags(width(c), fewMissing(r, width(c))), randomUnits(r, m, width(c), 3)
			parity, present, content := slices.Concat(c.Parity...), slices.Clone(have), slices.Clone(units)
			for range 2 {
				for unit := range have {
					checksAreNew(t, c, unit)
					p, _ := repair.Plan(c, have, unit)
					terms := slices.Clone(p.Terms)
					clear(repair.Reads(p))
					repair.Apply(c, p, units)
					if !slices.Equal(p.Terms, terms) {
						t.Fatalf("Reads or Apply changed its plan")
					}
					clear(p.Terms[:cap(p.Terms)])
				}
				plansAreNew(t, c, have)
				if !slices.Equal(slices.Concat(c.Parity...), parity) || !slices.Equal(have, present) || !slices.Equal(units, content) {
					t.Fatalf("a call changed an argument, or its result shares memory with one")
				}
			}
		}
	}
}

// checksAreNew clears each check and the memory behind it, and compares the others.
func checksAreNew(t *testing.T, c api.Code, unit int) {
	t.Helper()
	want := repair.Checks(c, unit)
	got := repair.Checks(c, unit)
	for i := range got {
		clear(got[i][:cap(got[i])])
		if !slices.EqualFunc(got[i+1:], want[i+1:], slices.Equal[[]int]) {
			t.Fatalf("two checks of Checks(%v, %d) share memory", c, unit)
		}
	}
}

// plansAreNew clears the terms of each plan and the memory behind them, and compares the others.
func plansAreNew(t *testing.T, c api.Code, have []bool) {
	t.Helper()
	want, _ := repair.All(c, have)
	got, _ := repair.All(c, have)
	for i := range got {
		clear(got[i].Terms[:cap(got[i].Terms)])
		for j := i + 1; j < len(got); j++ {
			if !samePlan(got[j], want[j].Unit, want[j].Terms) {
				t.Fatalf("two plans of All(%v, %v) share memory", c, have)
			}
		}
	}
}

// FuzzPlan tests plans against the reference.
func FuzzPlan(f *testing.F) {
	f.Add(false, uint8(3), []byte{1, 1, 0, 0, 0, 0, 1, 1, 1, 2, 4, 8}, uint32(0b1110011), []byte("contents"))
	f.Add(true, uint8(1), []byte{255, 1, 1, 1}, uint32(0b101), []byte{0, 1})
	f.Add(false, uint8(0), []byte{1, 1, 1, 1, 1, 1, 1}, uint32(0xfe), []byte{9})
	f.Fuzz(func(t *testing.T, large bool, data uint8, cells []byte, present uint32, content []byte) {
		c := api.Code{Field: 8, Data: 1 + int(data%8)}
		if large {
			c.Field = 16
		}
		for ; len(cells) >= c.Data && len(c.Parity) < 10; cells = cells[c.Data:] {
			row := make([]int, c.Data)
			for j := range row {
				row[j] = int(cells[j]) << (c.Field - 8) >> (j % 2 * (c.Field - 8))
			}
			if slices.Max(row) > 0 {
				c.Parity = append(c.Parity, row)
			}
		}
		checkAgainst(t, c, int(present)&(bit(width(c))-1))
		size := len(content) / c.Data / 2 * 2
		var units []string
		for j := range c.Data {
			units = append(units, string(content[j*size:(j+1)*size]))
		}
		units = stripe(c, units)
		for unit := range units {
			if p, e := repair.Plan(c, flags(width(c), int(present)), unit); e == api.OK {
				checkApply(t, c, p, units, units[unit])
			}
		}
	})
}

// FuzzArguments tests that no argument leads to a panic, and that exactly the wrong ones are refused.
func FuzzArguments(f *testing.F) {
	f.Add(8, 4, 3, 4, 1, uint64(0b1110011), 7, 2, 1, uint64(0))
	f.Add(16, 1, 33, 1, 65535, uint64(1), 1, 0, 7, uint64(1))
	f.Add(8, -1, 1, 0, 0, uint64(0), 0, -1, 0, uint64(2))
	f.Fuzz(func(t *testing.T, m, data, parity, length, cell int, set uint64, n, unit, coef int, lengths uint64) {
		c := api.Code{Field: m, Data: data}
		for i := range uint(parity) % 40 {
			row := make([]int, uint(length)%40)
			for j := range row {
				row[j] = cell >> ((int(i) + j) % 8)
			}
			c.Parity = append(c.Parity, row)
		}
		have := flags(int(uint(n)%64), int(set))
		right := erasure.Valid(c) && len(have) == width(c)
		inside := right && unit >= 0 && unit < len(have)
		if got := repair.Checks(c, unit); len(got) > 0 && (!erasure.Valid(c) || unit < 0 || unit >= width(c)) {
			t.Fatalf("P10.1: Checks(%v, %d) = %v", c, unit, got)
		}
		p, e := repair.Plan(c, have, unit)
		if (e == api.ErrArg) == inside || e != api.OK && (e != api.ErrArg && e != api.ErrLost || !samePlan(p, 0, nil)) {
			t.Fatalf("P10.2: Plan(%v, %v, %d) = %v, %d", c, have, unit, p, e)
		}
		l, e := repair.All(c, have)
		if (e == api.ErrArg) == right || e != api.OK && (e != api.ErrArg && e != api.ErrLost || len(l) != 0) {
			t.Fatalf("P10.3: All(%v, %v) = %v, %d", c, have, l, e)
		}
		units := make([]string, len(have))
		for i := range units {
			units[i] = string(make([]byte, lengths>>i&1))
		}
		p = api.Plan{Unit: unit, Terms: []api.Term{{Unit: unit, Coef: coef}}}
		whole := inside && coef >= 0 && coef < 1<<m && (m == 8 || units[unit] == "")
		if got, e := repair.Apply(c, p, units); (e == api.OK) != whole || e != api.OK && (e != api.ErrArg || got != "") {
			t.Fatalf("P10.5: Apply(%v, %v, %q) = %q, %d", c, p, units, got, e)
		}
	})
}
