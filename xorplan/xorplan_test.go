package xorplan_test

import (
	"math"
	"math/rand"
	"slices"
	"strings"
	"testing"

	"solvent/api"
	"solvent/erasure"
	"solvent/xorplan"
)

// small returns the code of the chapter's examples.
func small() api.Code { return api.Code{Field: 8, Data: 2, Parity: [][]int{{1, 1}, {1, 2}}} }

// base returns a valid schedule with operations on inputs and results, and with outputs of all kinds.
func base() api.Schedule {
	ops := []api.XorOp{{A: 0, B: 8}, {A: 16, B: 1}, {A: 0, B: 17}, {A: 16, B: 17}}
	return api.Schedule{Field: 8, Data: 2, Parity: 1, Ops: ops, Out: []int{16, 17, -1, 0, 15, 16, 19, 18}}
}

// sameLists reports whether two lists of lists are equal.
func sameLists(a, b [][]int) bool { return slices.EqualFunc(a, b, slices.Equal[[]int]) }

// checkSets checks the sets of a valid schedule.
func checkSets(t *testing.T, s api.Schedule, want [][]int) {
	t.Helper()
	if !xorplan.Valid(s) {
		t.Fatalf("P11.1: Valid(%v) is false", s)
	}
	if got, e := xorplan.Sets(s); e != api.OK || !sameLists(got, want) {
		t.Fatalf("P11.1: Sets(%v) = %v, %d, want %v", s, got, e, want)
	}
}

// checkCompile checks the schedule of a code, and returns it.
func checkCompile(t *testing.T, c api.Code) api.Schedule {
	t.Helper()
	got, e := xorplan.Compile(c)
	if want := compiled(c); e != api.OK || !same(got, want) {
		t.Fatalf("P11.2: Compile(%v) = %v, %d, want %v", c, got, e, want)
	}
	return got
}

// checkShorten checks a short schedule.
func checkShorten(t *testing.T, s, want api.Schedule) {
	t.Helper()
	if got, e := xorplan.Shorten(s); e != api.OK || !same(got, want) {
		t.Fatalf("P11.3: Shorten(%v) = %v, %d, want %v", s, got, e, want)
	}
}

// checkRun checks the results of a schedule.
func checkRun(t *testing.T, s api.Schedule, data, want []string) {
	t.Helper()
	if got, e := xorplan.Run(s, data); e != api.OK || !slices.Equal(got, want) {
		t.Fatalf("P11.4: Run(%v, %q) = %q, %d, want %q", s, data, got, e, want)
	}
}

// runRefused checks that Run returns the error.
func runRefused(t *testing.T, s api.Schedule, data []string) {
	t.Helper()
	if got, e := xorplan.Run(s, data); e != api.ErrArg || len(got) != 0 {
		t.Fatalf("P11.4: Run(%v, %q) = %q, %d, want the error %d", s, data, got, e, api.ErrArg)
	}
}

// scheduleRefused checks that a schedule is not valid for any function.
func scheduleRefused(t *testing.T, s api.Schedule) {
	t.Helper()
	if xorplan.Valid(s) {
		t.Fatalf("P11.1: Valid(%v) is true", s)
	}
	if got, e := xorplan.Sets(s); e != api.ErrArg || len(got) != 0 {
		t.Fatalf("P11.1: Sets(%v) = %v, %d, want the error %d", s, got, e, api.ErrArg)
	}
	if got, e := xorplan.Shorten(s); e != api.ErrArg || !same(got, api.Schedule{}) {
		t.Fatalf("P11.3: Shorten(%v) = %v, %d, want the error %d", s, got, e, api.ErrArg)
	}
	for _, unit := range []string{"", "ab", "abc"} {
		for _, n := range []int{0, 1, 2, 3, 32} {
			runRefused(t, s, slices.Repeat([]string{unit}, n))
		}
	}
}

func TestExamples(t *testing.T) {
	s := checkCompile(t, small())
	sets, e := xorplan.Sets(s)
	if e != api.OK || len(sets) != 16 {
		t.Fatalf("P11.1: Sets(%v) = %v, %d", s, sets, e)
	}
	for i, want := range map[int][]int{0: {0, 8}, 1: {1, 9}, 8: {0, 15}, 9: {1, 8}, 10: {2, 9, 15}} {
		if !slices.Equal(sets[i], want) {
			t.Errorf("P11.1: set %d is %v, want %v", i, sets[i], want)
		}
	}
	if len(s.Ops) != 19 {
		t.Errorf("P11.2: there are %d operations", len(s.Ops))
	}
	checkRun(t, s, []string{"\x01", "\x80"}, []string{"\x81", "\x1c"})
	checkPairs(t, [][]int{{0, 1, 2}, {0, 1, 3}}, []api.XorOp{{A: 0, B: 1}, {A: 2, B: 8}, {A: 3, B: 8}}, 9, 10)
}

func TestValid(t *testing.T) {
	checkSets(t, base(), [][]int{{0, 8}, {0, 1, 8}, nil, {0}, {15}, {0, 8}, {1}, {1, 8}})
	for _, m := range sizes {
		for data := -1; data <= 34; data++ {
			for parity := -1; parity <= 34; parity++ {
				s := api.Schedule{Field: m, Data: data, Parity: parity, Out: slices.Repeat([]int{-1}, max(0, parity*m))}
				if data > 0 && parity >= 0 && data+parity <= 32 {
					checkSets(t, s, make([][]int, parity*m))
					checkRun(t, s, slices.Repeat([]string{"ab"}, data), slices.Repeat([]string{"\x00\x00"}, parity))
				} else {
					scheduleRefused(t, s)
				}
			}
		}
	}
}

// TestInvalidSchedules tests schedules that are not valid, each for one reason.
func TestInvalidSchedules(t *testing.T) {
	refused := func(change func(s *api.Schedule)) {
		t.Helper()
		s := base()
		change(&s)
		if valid(s) {
			t.Fatalf("the schedule of the test is valid: %v", s)
		}
		scheduleRefused(t, s)
	}
	for _, m := range []int{0, 1, 4, 7, 9, 15, 17, 32, -8, 1<<32 + 8, math.MaxInt, math.MinInt} {
		refused(func(s *api.Schedule) { s.Field = m })
		refused(func(s *api.Schedule) { s.Field, s.Parity, s.Ops, s.Out = m, 0, nil, nil })
		refused(func(s *api.Schedule) { s.Field, s.Ops, s.Out = m, nil, slices.Repeat([]int{-1}, max(0, min(m, 64))) })
	}
	refused(func(s *api.Schedule) { s.Field = 16 })
	refused(func(s *api.Schedule) { s.Data = 0 })
	refused(func(s *api.Schedule) { s.Data = 32 })
	refused(func(s *api.Schedule) { s.Parity = 0 })
	refused(func(s *api.Schedule) { s.Parity = 2 })
	refused(func(s *api.Schedule) { s.Parity = 32 })
	extremes := []int{-1, -2, 33, math.MaxInt, math.MaxInt - 1, math.MinInt, math.MinInt + 1, math.MinInt + 32}
	for _, n := range extremes {
		refused(func(s *api.Schedule) { s.Data = n })
		refused(func(s *api.Schedule) { s.Parity = n })
		for _, parity := range append(extremes, 0, 2, 32) {
			refused(func(s *api.Schedule) {
				s.Data, s.Parity, s.Ops, s.Out = n, parity, nil, make([]int, max(0, min(8*parity, 264)))
			})
		}
	}
	// The numbers of inputs and of outputs would be 0 modulo 2^64.
	for _, m := range sizes {
		for _, units := range [][2]int{{1, -1 << 60}, {1, -1 << 61}, {1, -1 << 62}, {1 << 62, 1 << 62}, {1 << 61, 0}, {-1 << 61, 0}} {
			refused(func(s *api.Schedule) { *s = api.Schedule{Field: m, Data: units[0], Parity: units[1]} })
		}
	}
	for i := range base().Ops {
		for _, x := range []int{-1, -2, 16 + i, 17 + i, 20, 100, math.MaxInt, math.MinInt, 1<<32 + 1} {
			refused(func(s *api.Schedule) { s.Ops[i].A = x })
			refused(func(s *api.Schedule) { s.Ops[i].B = x })
		}
		refused(func(s *api.Schedule) { s.Ops[i].A = s.Ops[i].B })
		refused(func(s *api.Schedule) { s.Ops[i] = api.XorOp{} })
	}
	for i := range base().Out {
		for _, x := range []int{-2, -3, 20, 21, 100, math.MaxInt, math.MinInt, 1<<32 + 1} {
			refused(func(s *api.Schedule) { s.Out[i] = x })
		}
		refused(func(s *api.Schedule) { s.Out = s.Out[:i] })
	}
	refused(func(s *api.Schedule) { s.Ops = s.Ops[:3] })
	refused(func(s *api.Schedule) { s.Out = append(s.Out, -1) })
	refused(func(s *api.Schedule) { s.Out = append(s.Out, s.Out...) })
	refused(func(s *api.Schedule) { *s = api.Schedule{} })
}

// TestMostOperations tests schedules with as many operations as there may be, and with one more.
func TestMostOperations(t *testing.T) {
	s := api.Schedule{Field: 8, Data: 2, Parity: 1}
	for i := range api.MaxOps {
		s.Ops = append(s.Ops, api.XorOp{A: 15 + i, B: i % 15})
	}
	last := 15 + api.MaxOps
	s.Out = []int{last, last - 1, last - 2, -1, 0, 15, last - 30, 16}
	checkSets(t, s, setsOf(s))
	checkShorten(t, s, shortened(s))
	data := []string{"abcdefghij", "0123456789"}
	checkRun(t, s, data, outcome(s, data))
	s.Ops = append(s.Ops, api.XorOp{A: 0, B: 1})
	scheduleRefused(t, s)
}

func TestSets(t *testing.T) {
	r := rand.New(rand.NewSource(1))
	for range 1000 {
		s := anySchedule(r, sizes[r.Intn(2)], r.Intn(6)+1, r.Intn(4), r.Intn(150))
		checkSets(t, s, setsOf(s))
	}
	for data := 1; data <= 32; data++ {
		s := anySchedule(r, 16, data, 32-data, 2000)
		checkSets(t, s, setsOf(s))
		all := api.Schedule{Field: 16, Data: data, Parity: 32 - data}
		for i := range all.Parity * 16 {
			all.Out = append(all.Out, i%(data*16))
		}
		checkSets(t, all, setsOf(all))
	}
}

func TestCompile(t *testing.T) {
	c := api.Code{Field: 8, Data: 2, Parity: [][]int{{0, 1}, {2, 0}, {255, 142}}}
	s := checkCompile(t, c)
	first := []int{8, 9, 10, 11, 12, 13, 14, 15, 7, 0, 16, 17, 18, 4, 5, 6}
	if !slices.Equal(s.Out[:16], first) || !slices.Equal(s.Ops[:3], []api.XorOp{{A: 1, B: 7}, {A: 2, B: 7}, {A: 3, B: 7}}) {
		t.Errorf("P11.2: Compile(%v) = %v", c, s)
	}
	r := rand.New(rand.NewSource(2))
	for range 200 {
		checkCompile(t, anyCode(r, sizes[r.Intn(2)], r.Intn(6)+1, r.Intn(6)))
	}
	for _, m := range sizes {
		for _, data := range []int{1, 2, 8, 16, 30, 31, 32} {
			checkCompile(t, anyCode(r, m, data, 32-data))
		}
	}
}

// TestElements tests that the schedule of each element, as a coefficient, multiplies by it.
func TestElements(t *testing.T) {
	for _, m := range sizes {
		var powers []int
		for l := range m {
			powers = append(powers, 1<<l)
		}
		for a := 1; a < 1<<m; a += 1 + m/16*28 {
			s := checkCompile(t, api.Code{Field: m, Data: 1, Parity: [][]int{{a}}})
			var products []int
			for _, b := range powers {
				products = append(products, mul(m, a, b))
			}
			checkRun(t, s, []string{unitOf(m, powers)}, []string{unitOf(m, products)})
		}
	}
}

// invalid returns codes that are not valid, each for one reason.
func invalid() []api.Code {
	l := []api.Code{{}, {Data: 1}, {Field: 8}, {Field: 8, Parity: [][]int{{}}}, {Field: 16, Parity: [][]int{{1}}}}
	for _, m := range []int{0, 1, 4, 7, 9, 15, 17, 32, -8, 1<<32 + 8, math.MaxInt, math.MinInt} {
		l = append(l, api.Code{Field: m, Data: 1}, api.Code{Field: m, Data: 2, Parity: [][]int{{1, 1}}})
	}
	for _, m := range sizes {
		for _, n := range []int{-1, -2, 0, 33, 64, math.MaxInt, math.MaxInt - 1, math.MinInt, math.MinInt + 1} {
			l = append(l, api.Code{Field: m, Data: n}, api.Code{Field: m, Data: n, Parity: [][]int{{1}}})
		}
		for data := 1; data <= 34; data++ {
			row := slices.Repeat([]int{1}, data)
			l = append(l, api.Code{Field: m, Data: data, Parity: slices.Repeat([][]int{row}, max(33-data, 1))})
		}
		for _, row := range [][]int{nil, {}, {1}, {1, 1, 1}, {0, 0}, {1, 1 << m}, {-1, 1}, {math.MinInt, 0}, {1, math.MaxInt}} {
			l = append(l, api.Code{Field: m, Data: 2, Parity: [][]int{row}})
			l = append(l, api.Code{Field: m, Data: 2, Parity: [][]int{row, {1, 1}}})
			l = append(l, api.Code{Field: m, Data: 2, Parity: [][]int{{1, 1}, row}})
		}
	}
	return l
}

func TestInvalidCodes(t *testing.T) {
	for i, c := range invalid() {
		if erasure.Valid(c) {
			t.Fatalf("code %d of the test is valid: %v", i, c)
		}
		if got, e := xorplan.Compile(c); e != api.ErrArg || !same(got, api.Schedule{}) {
			t.Fatalf("P11.2: Compile(%v) = %v, %d, want the error %d", c, got, e, api.ErrArg)
		}
	}
}

// TestCodesWithoutNames tests that codes are valid here whatever their names and domains are, although package codelang would
// not accept them.
func TestCodesWithoutNames(t *testing.T) {
	c := small()
	want := compiled(c)
	for _, name := range []string{"", "rs", "No name", "abcdefghijklm"} {
		for _, domain := range []int{0, 1, 4, 5, -1, math.MaxInt, math.MinInt} {
			c.Name, c.Domain = name, domain
			if got := checkCompile(t, c); !same(got, want) {
				t.Fatalf("P11.2: Compile(%v) = %v, want %v", c, got, want)
			}
		}
	}
}

// unshared returns the schedule with a parity unit of one data unit, for m = 8, whose first planes have these sets; it shares
// nothing, and the other planes are 0.
func unshared(sets [][]int) api.Schedule {
	all := make([][]int, 8)
	copy(all, sets)
	return chained(api.Schedule{Field: 8, Data: 1, Parity: 1}, all)
}

// checkPairs checks the operations of Shorten for sets, and the outputs for them.
func checkPairs(t *testing.T, sets [][]int, ops []api.XorOp, out ...int) {
	t.Helper()
	all := append(out, slices.Repeat([]int{-1}, 8-len(out))...)
	checkShorten(t, unshared(sets), api.Schedule{Field: 8, Data: 1, Parity: 1, Ops: ops, Out: all})
}

// TestBestPair tests which pair is chosen first.
func TestBestPair(t *testing.T) {
	// The pair that the most sets contain.
	checkPairs(t, [][]int{{0, 1}, {0, 1}, {6, 7}, {6, 7}, {6, 7}}, []api.XorOp{{A: 6, B: 7}, {A: 0, B: 1}}, 9, 9, 8, 8, 8)
	// Of several, the one with the least a, although its b is greater.
	checkPairs(t, [][]int{{1, 2}, {1, 2}, {0, 7}, {0, 7}}, []api.XorOp{{A: 0, B: 7}, {A: 1, B: 2}}, 9, 9, 8, 8)
	// Of several with the least a, the one with the least b.
	checkPairs(t, [][]int{{0, 7}, {0, 7}, {0, 2}, {0, 2}}, []api.XorOp{{A: 0, B: 2}, {A: 0, B: 7}}, 9, 9, 8, 8)
	// The result of an operation comes after the inputs, also where a is the same.
	checkPairs(t, [][]int{{0, 1, 3}, {0, 1, 3}, {3, 4}, {3, 4}}, []api.XorOp{{A: 0, B: 1}, {A: 3, B: 4}, {A: 3, B: 8}}, 10, 10, 9, 9)
	checkPairs(t, [][]int{{0, 1, 2}, {0, 1, 2}, {3, 4}, {3, 4}}, []api.XorOp{{A: 0, B: 1}, {A: 2, B: 8}, {A: 3, B: 4}}, 9, 9, 10, 10)
	checkPairs(t, [][]int{{0, 1, 4}, {0, 1, 4}, {3, 5}, {3, 5}}, []api.XorOp{{A: 0, B: 1}, {A: 3, B: 5}, {A: 4, B: 8}}, 10, 10, 9, 9)
	// A pair of results.
	checkPairs(t, [][]int{{0, 1, 2, 3}, {0, 1, 2, 3}}, []api.XorOp{{A: 0, B: 1}, {A: 2, B: 3}, {A: 8, B: 9}}, 10, 10)
	checkPairs(t, [][]int{{0, 1, 2, 3}, {0, 1, 2, 3}, {0, 1, 4}, {2, 3, 5}},
		[]api.XorOp{{A: 0, B: 1}, {A: 2, B: 3}, {A: 8, B: 9}, {A: 4, B: 8}, {A: 5, B: 9}}, 10, 10, 11, 12)
}

// TestReplacedPairs tests that a replaced pair no longer counts for the pairs of its registers.
func TestReplacedPairs(t *testing.T) {
	// The pair 1, 2 is in three sets at first, but in one when the pair 0, 1 is replaced; that of 2 and the result is in two.
	checkPairs(t, [][]int{{0, 1, 2}, {0, 1, 2}, {0, 1}, {0, 1}, {1, 2}},
		[]api.XorOp{{A: 0, B: 1}, {A: 2, B: 8}, {A: 1, B: 2}}, 9, 9, 8, 8, 10)
	// The pair 1, 2 is still in two sets.
	checkPairs(t, [][]int{{0, 1, 2}, {0, 1}, {0, 1}, {0, 1}, {1, 2}, {1, 2, 5}},
		[]api.XorOp{{A: 0, B: 1}, {A: 1, B: 2}, {A: 2, B: 8}, {A: 5, B: 9}}, 10, 8, 8, 8, 9, 11)
	// The pair 0, 1 is in two sets, and no other pair is: what is left is added up in increasing order.
	checkPairs(t, [][]int{{0, 1, 2, 3}, {0, 1, 4, 5}},
		[]api.XorOp{{A: 0, B: 1}, {A: 2, B: 3}, {A: 9, B: 8}, {A: 4, B: 5}, {A: 11, B: 8}}, 10, 12)
	// Outputs without operations.
	checkPairs(t, [][]int{{0, 1}, nil, {5}, {0, 1}}, []api.XorOp{{A: 0, B: 1}}, 8, -1, 5, 8)
}

// TestNotShorter tests that Shorten returns the schedule itself unless there is one with fewer operations.
func TestNotShorter(t *testing.T) {
	s := base()
	checkShorten(t, api.Schedule{Field: 8, Data: 2}, api.Schedule{Field: 8, Data: 2})
	s.Ops = nil
	s.Out = []int{3, 3, -1, 0, 15, 1, 2, -1}
	checkShorten(t, s, s)
	// No pair is common.
	s = unshared([][]int{{0, 1, 2}, {2, 3, 4}, {0, 3}, {1, 4}})
	checkShorten(t, s, s)
	// There are as many operations, but others.
	s = unshared([][]int{{0, 1, 2}})
	s.Ops[0], s.Ops[1] = api.XorOp{A: 2, B: 1}, api.XorOp{A: 8, B: 0}
	checkShorten(t, s, s)
	s.Out = []int{9, 9, 8, 9, -1, 9, 9, 7}
	checkShorten(t, s, s)
	// The second output is 0 without being -1.
	s = unshared(nil)
	s.Ops = []api.XorOp{{A: 0, B: 1}, {A: 1, B: 0}, {A: 8, B: 9}}
	s.Out[0], s.Out[1] = 8, 10
	short := unshared([][]int{{0, 1}})
	checkShorten(t, s, short)
	// With common pairs there is one operation more: the last set is the exclusive or of the first and the third.
	s = api.Schedule{Field: 8, Data: 1, Parity: 1, Ops: []api.XorOp{{A: 0, B: 1}, {A: 3, B: 1}, {A: 2, B: 8}, {A: 9, B: 10}}}
	s.Out = []int{9, 8, 10, 11, -1, -1, -1, -1}
	checkSets(t, s, [][]int{{1, 3}, {0, 1}, {0, 1, 2}, {0, 2, 3}, nil, nil, nil, nil})
	checkShorten(t, s, s)
}

// TestUnneeded tests that Shorten leaves out what no output needs.
func TestUnneeded(t *testing.T) {
	s := api.Schedule{Field: 8, Data: 1, Ops: []api.XorOp{{A: 0, B: 1}, {A: 8, B: 2}}}
	checkShorten(t, s, api.Schedule{Field: 8, Data: 1})
	s = unshared([][]int{{0, 1, 2, 3}})
	s.Ops = append(s.Ops, api.XorOp{A: 10, B: 3}, api.XorOp{A: 11, B: 2})
	s.Out[1], s.Out[2] = 11, 12
	checkShorten(t, s, api.Schedule{Field: 8, Data: 1, Parity: 1, Ops: []api.XorOp{{A: 0, B: 1}, {A: 2, B: 8}, {A: 3, B: 9}},
		Out: []int{10, 9, 8, -1, -1, -1, -1, -1}})
}

// TestShorten compares Shorten with the reference, for schedules that can be shortened and for others.
func TestShorten(t *testing.T) {
	r := rand.New(rand.NewSource(3))
	shorter, others := 0, 0
	check := func(s api.Schedule) {
		t.Helper()
		want := shortened(s)
		if checkShorten(t, s, want); len(want.Ops) < len(s.Ops) {
			shorter++
		} else {
			others++
		}
	}
	for range 500 {
		check(anySchedule(r, 8, r.Intn(3)+1, r.Intn(4), r.Intn(40)))
		check(anySets(r, 8, r.Intn(3)+1, r.Intn(4), r.Float64()))
		check(compiled(anyCode(r, 8, r.Intn(4)+1, r.Intn(4))))
	}
	if shorter < 100 || others < 100 {
		t.Fatalf("there are %d schedules that can be shortened, and %d others", shorter, others)
	}
	wide := [][3]int{{8, 10, 4}, {8, 4, 12}, {8, 1, 31}, {8, 31, 1}, {16, 1, 2}, {16, 4, 2}, {16, 2, 4}, {16, 1, 31}, {16, 31, 1}}
	for _, size := range wide {
		check(compiled(anyCode(r, size[0], size[1], size[2])))
		check(anySets(r, size[0], size[1], size[2], 0.1))
	}
	check(anySets(r, 8, 5, 5, 1))
	check(anySets(r, 16, 3, 5, 0.9))
}

// TestWide tests schedules of the widest stripes, for which the reference would take too long.
func TestWide(t *testing.T) {
	r := rand.New(rand.NewSource(4))
	for _, parity := range []int{4, 16, 28} {
		c := anyCode(r, 16, 32-parity, parity)
		s := checkCompile(t, c)
		short, e := xorplan.Shorten(s)
		if e != api.OK || len(short.Ops) > len(s.Ops)/2 {
			t.Fatalf("P11.3: of %d operations %d are left, and the error is %d", len(s.Ops), len(short.Ops), e)
		}
		checkSets(t, short, planeSets(c))
		data := anyUnits(r, c.Data, api.UnitSize)
		for _, s := range []api.Schedule{s, short} {
			checkRun(t, s, data, parityOf(c, data))
		}
	}
}

func TestRun(t *testing.T) {
	data := []string{"\x01\x80", "\xff\x0f"}
	checkRun(t, base(), data, []string{"\x98\xa3"})
	r := rand.New(rand.NewSource(5))
	for range 300 {
		m := sizes[r.Intn(2)]
		s := anySchedule(r, m, r.Intn(4)+1, r.Intn(4), r.Intn(100))
		data := anyUnits(r, s.Data, r.Intn(40)*m/8)
		checkRun(t, s, data, outcome(s, data))
	}
	for _, m := range sizes {
		s := anySchedule(r, m, 3, 2, 50)
		for _, symbols := range []int{0, 1, 2, 31, 32, 33, 63, 64, 65, 127, 128, 129, 192, 500, 1024} {
			data := anyUnits(r, s.Data, symbols*m/8)
			checkRun(t, s, data, outcome(s, data))
		}
	}
}

// TestZeroUnits tests units without bytes, and schedules without parity units.
func TestZeroUnits(t *testing.T) {
	for _, m := range sizes {
		s := compiled(api.Code{Field: m, Data: 2, Parity: [][]int{{1, 1}, {1, 2}, {0, 1}}})
		checkRun(t, s, []string{"", ""}, []string{"", "", ""})
		s = checkCompile(t, api.Code{Field: m, Data: 2})
		checkSets(t, s, nil)
		checkShorten(t, s, api.Schedule{Field: m, Data: 2})
		for _, unit := range []string{"", "ab", "abcd"} {
			checkRun(t, s, []string{unit, unit}, nil)
		}
		runRefused(t, s, []string{"ab"})
		runRefused(t, s, []string{"ab", "abcd"})
	}
}

// TestInvalidData tests units that are not those of a stripe.
func TestInvalidData(t *testing.T) {
	for _, m := range sizes {
		for n := 1; n <= 31; n++ {
			s := compiled(api.Code{Field: m, Data: n, Parity: [][]int{slices.Repeat([]int{1}, n)}})
			for _, unit := range []string{"", "ab", "abcd"} {
				runRefused(t, s, nil)
				runRefused(t, s, slices.Repeat([]string{unit}, n-1))
				runRefused(t, s, slices.Repeat([]string{unit}, n+1))
				for i := range n {
					for _, other := range []string{"", "ab", "abcd", "a", "abc"} {
						data := slices.Repeat([]string{unit}, n)
						if data[i] = other; n > 1 && other != unit {
							runRefused(t, s, data)
						}
					}
				}
			}
			for _, unit := range []string{"a", "abc", "abcde"} {
				data := slices.Repeat([]string{unit}, n)
				if m == 16 {
					runRefused(t, s, data)
				} else {
					checkRun(t, s, data, outcome(s, data))
				}
			}
		}
	}
}

// xor returns the exclusive ors of the units of two lists.
func xor(a, b []string) []string {
	var l []string
	for i := range a {
		unit := []byte(a[i])
		for j := range unit {
			unit[j] ^= b[i][j]
		}
		l = append(l, string(unit))
	}
	return l
}

// concatenated returns the concatenations of the units of two lists.
func concatenated(a, b []string) []string {
	var l []string
	for i := range a {
		l = append(l, a[i]+b[i])
	}
	return l
}

// TestEncode tests P11.5: the parity units are those of package erasure and of the reference, whether the schedule is short or
// not; and they are linear and made of separate symbols.
func TestEncode(t *testing.T) {
	r := rand.New(rand.NewSource(6))
	for range 150 {
		c := anyCode(r, sizes[r.Intn(2)], r.Intn(5)+1, r.Intn(5))
		s := checkCompile(t, c)
		short, e := xorplan.Shorten(s)
		if e != api.OK || len(short.Ops) > len(s.Ops) {
			t.Fatalf("P11.3: Shorten(%v) = %v, %d", s, short, e)
		}
		checkSets(t, short, planeSets(c))
		length := r.Intn(50) * 2
		first, second := anyUnits(r, c.Data, length), anyUnits(r, c.Data, length)
		units, e := erasure.Encode(c, first)
		if e != api.OK {
			t.Fatalf("P8.2: Encode(%v, %q) = %d", c, first, e)
		}
		a, b := parityOf(c, first), parityOf(c, second)
		for _, s := range []api.Schedule{s, short} {
			checkRun(t, s, first, units[c.Data:])
			checkRun(t, s, first, a)
			checkRun(t, s, xor(first, second), xor(a, b))
			checkRun(t, s, concatenated(first, second), concatenated(a, b))
		}
	}
}

// spoil changes all integers of a schedule, and those that append would write to.
func spoil(s *api.Schedule) {
	ops, out := s.Ops[:cap(s.Ops)], s.Out[:cap(s.Out)]
	for i := range ops {
		ops[i] = api.XorOp{A: -7, B: -7}
	}
	for i := range out {
		out[i] = -7
	}
}

// TestMemory tests that arguments are not changed, and that results share no memory with arguments or among themselves.
func TestMemory(t *testing.T) {
	c := small()
	s := checkCompile(t, c)
	spoil(&s)
	checkCompile(t, c)
	if !slices.EqualFunc(c.Parity, small().Parity, slices.Equal[[]int]) {
		t.Fatalf("P11.2: Compile changed its argument to %v", c)
	}
	for _, s := range []api.Schedule{base(), compiled(small()), shortened(compiled(small()))} {
		s.Ops, s.Out = slices.Grow(s.Ops, 5), slices.Grow(s.Out, 5)
		original := copyOf(s)
		short, e := xorplan.Shorten(s)
		if e != api.OK {
			t.Fatalf("P11.3: Shorten(%v) = %d", s, e)
		}
		spoil(&short)
		sets, e := xorplan.Sets(s)
		if e != api.OK {
			t.Fatalf("P11.1: Sets(%v) = %d", s, e)
		}
		want := setsOf(s)
		for i, l := range sets {
			if !slices.Equal(l, want[i]) {
				t.Fatalf("P11.1: set %d of Sets(%v) is %v when others have been changed, want %v", i, s, l, want[i])
			}
			for j := range l[:cap(l)] {
				l[:cap(l)][j] = -7
			}
		}
		data := []string{"ab", "cd"}
		if _, e := xorplan.Run(s, data); e != api.OK || !slices.Equal(data, []string{"ab", "cd"}) {
			t.Fatalf("P11.4: Run(%v, ...) = %d, and its argument is %q", s, e, data)
		}
		if !same(s, original) {
			t.Fatalf("the argument %v has been changed to %v", original, s)
		}
		checkSets(t, s, want)
	}
}

// TestAgain tests that results do not depend on earlier calls.
func TestAgain(t *testing.T) {
	r := rand.New(rand.NewSource(7))
	s := compiled(anyCode(r, 8, 8, 3))
	want := shortened(s)
	for range 20 {
		checkShorten(t, s, want)
		checkShorten(t, want, shortened(want))
		checkShorten(t, base(), shortened(base()))
	}
}

// source takes numbers from the bytes of a fuzz test's argument, and 0 when there are none left.
type source struct{ bytes []byte }

// next returns a number from 0 to n - 1.
func (s *source) next(n int) int {
	number := 0
	for range 2 {
		number *= 256
		if len(s.bytes) > 0 {
			number += int(s.bytes[0])
			s.bytes = s.bytes[1:]
		}
	}
	return number % n
}

// units returns units with the bytes that are left, of up to 200 bytes each.
func (s *source) units(m, n int) []string {
	length := min(200, len(s.bytes)/n/2*2)
	var l []string
	for i := range n {
		l = append(l, string(s.bytes[i*length:(i+1)*length]))
	}
	return l
}

// checkAll compares all functions with their references, for a valid schedule.
func checkAll(t *testing.T, s api.Schedule, data []string) {
	t.Helper()
	original := copyOf(s)
	checkSets(t, s, setsOf(s))
	checkShorten(t, s, shortened(s))
	want := outcome(s, data)
	checkRun(t, s, data, want)
	checkRun(t, shortened(s), data, want)
	if !same(s, original) {
		t.Fatalf("the argument %v has been changed to %v", original, s)
	}
}

func FuzzSchedule(f *testing.F) {
	r := rand.New(rand.NewSource(8))
	for _, n := range []int{20, 100, 200, 400} {
		f.Add([]byte(anyUnits(r, 1, n)[0]))
	}
	f.Fuzz(func(t *testing.T, bytes []byte) {
		numbers := &source{bytes: bytes}
		s := api.Schedule{Field: sizes[numbers.next(2)], Data: numbers.next(3) + 1, Parity: numbers.next(4)}
		registers := s.Data * s.Field
		for range numbers.next(50) {
			a, b := numbers.next(registers), numbers.next(registers-1)
			if b >= a {
				b++
			}
			s.Ops = append(s.Ops, api.XorOp{A: a, B: b})
			registers++
		}
		for range s.Parity * s.Field {
			s.Out = append(s.Out, numbers.next(registers+1)-1)
		}
		checkAll(t, s, numbers.units(s.Field, s.Data))
	})
}

func FuzzCode(f *testing.F) {
	r := rand.New(rand.NewSource(9))
	for _, n := range []int{20, 100, 200} {
		f.Add([]byte(anyUnits(r, 1, n)[0]))
	}
	f.Fuzz(func(t *testing.T, bytes []byte) {
		numbers := &source{bytes: bytes}
		c := api.Code{Field: sizes[numbers.next(2)], Data: numbers.next(4) + 1}
		for range numbers.next(4) {
			row := make([]int, c.Data)
			for j := range row {
				row[j] = numbers.next(1 << c.Field)
			}
			if slices.Max(row) > 0 {
				c.Parity = append(c.Parity, row)
			}
		}
		s := checkCompile(t, c)
		data := numbers.units(c.Field, c.Data)
		checkRun(t, s, data, parityOf(c, data))
		checkAll(t, s, data)
	})
}

// FuzzArguments tests that exactly the schedules that are valid are accepted, whatever their integers are.
func FuzzArguments(f *testing.F) {
	f.Add(8, 2, 1, []byte{0, 8, 16, 1, 0, 17, 16, 17}, []byte{16, 17, 255, 0, 15, 16, 19, 18}, "ab,cd")
	f.Add(16, 1, 0, []byte{0, 1, 16, 0}, []byte{}, "ab")
	f.Add(8, 1, -1, []byte{}, []byte{}, "a")
	f.Add(8, 31, 1, []byte{}, []byte{0, 1, 2, 3, 4, 5, 6, 255}, "")
	f.Fuzz(func(t *testing.T, m, data, parity int, ops, out []byte, text string) {
		s := api.Schedule{Field: m, Data: data, Parity: parity}
		for i := 0; i+1 < len(ops); i += 2 {
			s.Ops = append(s.Ops, api.XorOp{A: int(int8(ops[i])), B: int(int8(ops[i+1]))})
		}
		for _, b := range out {
			s.Out = append(s.Out, int(int8(b)))
		}
		units := strings.Split(text, ",")
		if !valid(s) {
			scheduleRefused(t, s)
			runRefused(t, s, units)
			return
		}
		differs := func(unit string) bool { return len(unit) != len(units[0]) }
		if len(units) != data || slices.ContainsFunc(units, differs) || len(units[0])%(m/8) != 0 {
			runRefused(t, s, units)
			units = slices.Repeat([]string{"ab"}, data)
		}
		checkAll(t, s, units)
	})
}
