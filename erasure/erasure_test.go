package erasure_test

import (
	"math"
	"math/rand"
	"slices"
	"testing"

	"solvent/api"
	"solvent/erasure"
	"solvent/field"
)

// code returns the code of the chapter's examples.
func code() api.Code {
	return api.Code{Field: 8, Data: 3, Parity: [][]int{{1, 1, 1}, {1, 2, 0}}}
}

// have returns flags from the characters 1 and 0.
func have(text string) []bool {
	var l []bool
	for _, c := range text {
		l = append(l, c == '1')
	}
	return l
}

// wanted checks a result that is a list.
func wanted[E comparable](t *testing.T, what string, got []E, e api.Errno, want []E) {
	t.Helper()
	if e != api.OK || !slices.Equal(got, want) {
		t.Fatalf("%s = %#v, %d, want %#v", what, got, e, want)
	}
}

// refused checks a result that is an error.
func refused[E any](t *testing.T, what string, got []E, e, want api.Errno) {
	t.Helper()
	if e != want || len(got) != 0 {
		t.Fatalf("%s = %#v, %d, want the error %d", what, got, e, want)
	}
}

// unitWanted checks a result that is a unit.
func unitWanted(t *testing.T, what string, got string, e api.Errno, want string) {
	t.Helper()
	wanted(t, what, []string{got}, e, []string{want})
}

// unitRefused checks a result that is an error instead of a unit.
func unitRefused(t *testing.T, what string, got string, e, want api.Errno) {
	t.Helper()
	refused(t, what, []byte(got), e, want)
}

func TestExamples(t *testing.T) {
	c := code()
	if got := erasure.Width(c); got != 5 {
		t.Errorf("P8.1: Width = %d", got)
	}
	units, e := erasure.Encode(c, []string{"\x01", "\x02", "\x04"})
	wanted(t, "P8.2: Encode", units, e, []string{"\x01", "\x02", "\x04", "\x07", "\x05"})
	basis, e := erasure.Basis(c, have("11111"))
	wanted(t, "P8.3: Basis", basis, e, []int{0, 1, 2})
	basis, e = erasure.Basis(c, have("01111"))
	wanted(t, "P8.3: Basis", basis, e, []int{1, 2, 3})
	terms, e := erasure.Combination(c, have("01110"), 0)
	wanted(t, "P8.3: Combination", terms, e, []api.Term{{Unit: 1, Coef: 1}, {Unit: 2, Coef: 1}, {Unit: 3, Coef: 1}})
	terms, e = erasure.Combination(c, have("11000"), 4)
	wanted(t, "P8.3: Combination", terms, e, []api.Term{{Unit: 0, Coef: 1}, {Unit: 1, Coef: 2}})
	if !erasure.Recoverable(c, have("10001"), 1) || erasure.Recoverable(c, have("10001"), 2) || erasure.Decodable(c, have("10001")) {
		t.Error("P8.4: the units 0 and 4 determine unit 1 and not unit 2")
	}
	unit, e := erasure.Recover(c, []string{"\x01", "x", "x", "x", "\x05"}, have("10001"), 1)
	unitWanted(t, "P8.5: Recover", unit, e, "\x02")
	units, e = erasure.Decode(c, []string{"x", "\x02", "\x04", "\x07", "\x09"}, have("01111"))
	wanted(t, "P8.5: Decode", units, e, []string{"\x01", "\x02", "\x04", "\x07", "\x05"})
}

// invalid returns codes that are not valid, each for one reason.
func invalid() []api.Code {
	l := []api.Code{{}, {Data: 1}, {Field: 8}, {Field: 8, Parity: [][]int{{}}}, {Field: 16, Parity: [][]int{{1}}}}
	for _, m := range []int{0, 1, 2, 4, 7, 9, 15, 17, 32, 64, -8, -16, 1<<32 + 8, math.MaxInt, math.MinInt} {
		l = append(l, api.Code{Field: m, Data: 1}, api.Code{Field: m, Data: 2, Parity: [][]int{{1, 1}}})
	}
	for _, m := range sizes {
		for _, n := range []int{-1, -2, 33, 64, 1 << 32, math.MaxInt, math.MaxInt - 1, math.MinInt, math.MinInt + 1} {
			l = append(l, api.Code{Field: m, Data: n}, api.Code{Field: m, Data: n, Parity: [][]int{{1}}})
			l = append(l, api.Code{Field: m, Data: n, Parity: slices.Repeat([][]int{{1}}, 34)})
		}
		for data := 1; data <= 40; data++ {
			row := slices.Repeat([]int{1}, data)
			l = append(l, api.Code{Field: m, Data: data, Parity: slices.Repeat([][]int{row}, max(33-data, 1))})
			l = append(l, api.Code{Field: m, Data: data, Parity: slices.Repeat([][]int{row}, 100)})
		}
		for _, row := range [][]int{nil, {}, {1}, {1, 1}, {1, 1, 1, 1}, {0, 0, 0}} {
			for i := range 3 {
				c := api.Code{Field: m, Data: 3, Parity: [][]int{{1, 1, 1}, {1, 2, 0}, {1, 0, 0}}}
				c.Parity[i] = row
				l = append(l, c)
			}
		}
		for _, x := range []int{-1, -256, 1 << m, 1<<m + 1, 1 << 32, math.MaxInt, math.MinInt} {
			for i := range 6 {
				c := api.Code{Field: m, Data: 3, Parity: [][]int{{1, 1, 1}, {1, 2, 0}}}
				c.Parity[i/3][i%3] = x
				l = append(l, c)
			}
		}
	}
	return l
}

// valid returns codes of all sizes.
func valid(r *rand.Rand) []api.Code {
	l := []api.Code{code()}
	for _, m := range sizes {
		for data := 1; data <= api.MaxWidth; data++ {
			for _, parity := range []int{0, 1, 2, api.MaxWidth - data} {
				if data+parity <= api.MaxWidth {
					l = append(l, randomCode(r, m, data, parity, []int{0, 1, 2, 1<<m - 1}), cauchy(m, data, parity))
				}
			}
		}
	}
	return l
}

func TestValid(t *testing.T) {
	for i, c := range valid(rand.New(rand.NewSource(1))) {
		for _, name := range []string{"", "rs", "No name!", string(make([]byte, 100))} {
			for _, domain := range []int{0, 1, 32, 33, -1, math.MaxInt, math.MinInt} {
				c.Name, c.Domain = name, domain
				if !erasure.Valid(c) || erasure.Width(c) != width(c) {
					t.Fatalf("P8.1: Valid is false for %v (%d), or Width is %d", c, i, erasure.Width(c))
				}
			}
		}
	}
	for i, c := range invalid() {
		if erasure.Valid(c) || erasure.Width(c) != 0 {
			t.Errorf("P8.1: Valid is true for %v (%d), or Width is %d", c, i, erasure.Width(c))
		}
	}
}

func TestGenerator(t *testing.T) {
	for _, c := range valid(rand.New(rand.NewSource(2))) {
		got, e := erasure.Generator(c)
		wanted(t, "P8.1: the cells of Generator", got.Cell, e, slices.Concat(rows(c)...))
		if got.Field != c.Field || got.Rows != width(c) || got.Cols != c.Data {
			t.Fatalf("P8.1: Generator(%v) = %v", c, got)
		}
	}
	for _, c := range invalid() {
		got, e := erasure.Generator(c)
		refused(t, "P8.1: Generator", got.Cell, e, api.ErrArg)
		if got.Field != 0 || got.Rows != 0 || got.Cols != 0 {
			t.Fatalf("P8.1: Generator(%v) = %v", c, got)
		}
	}
}

func TestEncode(t *testing.T) {
	r := rand.New(rand.NewSource(3))
	for _, c := range valid(r) {
		for _, data := range [][]string{randomUnits(r, c.Field, c.Data, 5), make([]string, c.Data)} {
			got, e := erasure.Encode(c, data)
			wanted(t, "P8.2: Encode", got, e, stripe(c, data))
		}
		long := randomUnits(r, c.Field, c.Data, 5)
		long[r.Intn(c.Data)] += "more"
		got, e := erasure.Encode(c, long)
		if c.Data == 1 {
			wanted(t, "P8.2: Encode", got, e, stripe(c, long))
		} else {
			refused(t, "P8.2: Encode with different lengths", got, e, api.ErrArg)
		}
		for _, n := range []int{0, c.Data - 1, c.Data + 1, width(c) + 1, 33} {
			got, e = erasure.Encode(c, make([]string, n))
			if n != c.Data {
				refused(t, "P8.2: Encode with another number of data units", got, e, api.ErrArg)
			}
		}
		for _, unit := range []string{"a", "abc", string(make([]byte, 33))} {
			data := slices.Repeat([]string{unit}, c.Data)
			got, e = erasure.Encode(c, data)
			if c.Field == 8 {
				wanted(t, "P8.2: Encode of odd lengths", got, e, stripe(c, data))
			} else {
				refused(t, "P8.2: Encode of odd lengths", got, e, api.ErrArg)
			}
		}
	}
	for _, c := range invalid() {
		for n := range 4 {
			got, e := erasure.Encode(c, slices.Repeat([]string{"ab"}, n))
			refused(t, "P8.2: Encode with a code that is not valid", got, e, api.ErrArg)
		}
	}
}

// checkCombination checks Combination and Recoverable for one unit: the sum of the rows of the terms has to be the row of the
// unit.
func checkCombination(t *testing.T, c api.Code, have []bool, basis []int, unit int, recoverable bool) {
	t.Helper()
	terms, e := erasure.Combination(c, have, unit)
	if erasure.Recoverable(c, have, unit) != recoverable {
		t.Fatalf("P8.4: Recoverable(%v, %v, %d) = %v", c, have, unit, !recoverable)
	}
	if !recoverable {
		refused(t, "P8.3: Combination", terms, e, api.ErrLost)
		return
	}
	sum, last := make([]int, c.Data), -1
	for _, term := range terms {
		if term.Unit <= last || term.Coef == 0 || !slices.Contains(basis, term.Unit) {
			t.Fatalf("P8.3: Combination(%v, %v, %d) = %v", c, have, unit, terms)
		}
		last = term.Unit
		for j, x := range rows(c)[term.Unit] {
			sum[j] ^= mul(c.Field, term.Coef, x)
		}
	}
	wanted(t, "P8.3: the sum of the rows of Combination", sum, e, rows(c)[unit])
}

// TestSmallCodes tests codes with elements of a subfield, for all sets of present units, against the list of all stripes.
func TestSmallCodes(t *testing.T) {
	r := rand.New(rand.NewSource(4))
	for _, m := range sizes {
		for _, x := range []struct{ q, data, width int }{{2, 1, 4}, {2, 3, 7}, {2, 5, 8}, {4, 2, 5}, {4, 3, 6}, {4, 4, 8}, {16, 2, 6}} {
			elements := subfield(m, x.q)
			for range 12 {
				c := randomCode(r, m, x.data, r.Intn(x.width-x.data+1), elements)
				stripes := zeros(c, elements)
				for set := range 1 << width(c) {
					checkSet(t, c, stripes, set)
				}
			}
		}
	}
}

// checkSet checks the decisions about all units for one set of present units.
func checkSet(t *testing.T, c api.Code, stripes []int, set int) {
	t.Helper()
	n := width(c)
	present := flags(n, set)
	var basis []int
	for unit := range n {
		if present[unit] && !determined(stripes, set&(1<<unit-1), unit) {
			basis = append(basis, unit)
		}
	}
	got, e := erasure.Basis(c, present)
	wanted(t, "P8.3: Basis", got, e, basis)
	all := true
	for unit := range n {
		recoverable := determined(stripes, set, unit)
		checkCombination(t, c, present, basis, unit, recoverable)
		all = all && recoverable
	}
	if erasure.Decodable(c, present) != all {
		t.Fatalf("P8.4: Decodable(%v, %v) = %v", c, present, !all)
	}
	if all != (len(basis) == c.Data) {
		t.Fatalf("P8.6: the stripe of %v is decodable: %v, and the basis of %v is %v", c, all, present, basis)
	}
}

// TestLargeCodes tests codes of any width against package matrix.
func TestLargeCodes(t *testing.T) {
	r := rand.New(rand.NewSource(5))
	for _, m := range sizes {
		for range 400 {
			c := anyCode(r, m)
			present := randomFlags(r, width(c))
			got, e := erasure.Basis(c, present)
			wanted(t, "P8.3: Basis", got, e, basisByMatrix(c, present))
			all := true
			for unit := range present {
				want, recoverable := termsByMatrix(c, present, unit)
				terms, e := erasure.Combination(c, present, unit)
				if recoverable {
					wanted(t, "P8.3: Combination", terms, e, want)
				}
				checkCombination(t, c, present, got, unit, recoverable)
				all = all && recoverable
			}
			if erasure.Decodable(c, present) != all {
				t.Fatalf("P8.4: Decodable(%v, %v) = %v", c, present, !all)
			}
		}
	}
}

// TestCauchy tests codes of which any Data units are sufficient, and no fewer.
func TestCauchy(t *testing.T) {
	r := rand.New(rand.NewSource(6))
	for _, m := range sizes {
		for data := 1; data <= api.MaxWidth; data++ {
			c := cauchy(m, data, r.Intn(api.MaxWidth-data+1))
			for range 10 {
				order := r.Perm(width(c))
				present := make([]bool, width(c))
				for i, unit := range order {
					if erasure.Decodable(c, present) != (i >= data) {
						t.Fatalf("P8.6: Decodable(%v, %v) = %v with %d units", c, present, i < data, i)
					}
					present[unit] = true
				}
				if !erasure.Decodable(c, present) {
					t.Fatalf("P8.6: Decodable is false for all units of %v", c)
				}
			}
		}
	}
}

func TestWrongLists(t *testing.T) {
	r := rand.New(rand.NewSource(7))
	for _, c := range append(valid(r), invalid()...) {
		right := erasure.Width(c)
		for _, n := range []int{0, 1, 2, c.Data, width(c) - 1, width(c), width(c) + 1, 32, 33, 64} {
			if n < 0 || n > 1000 || n == right && right > 0 {
				continue
			}
			for _, present := range []bool{false, true} {
				listsRefused(t, c, make([]string, n), slices.Repeat([]bool{present}, n))
				listsRefused(t, c, make([]string, right), slices.Repeat([]bool{present}, n))
				unitsRefused(t, c, make([]string, n), slices.Repeat([]bool{present}, right))
			}
		}
	}
}

// listsRefused checks that have is refused, as an element for each unit of the code.
func listsRefused(t *testing.T, c api.Code, units []string, have []bool) {
	t.Helper()
	basis, e := erasure.Basis(c, have)
	refused(t, "P8.3: Basis", basis, e, api.ErrArg)
	if erasure.Decodable(c, have) {
		t.Fatalf("P8.4: Decodable(%v, %v) is true", c, have)
	}
	for unit := -1; unit < 3; unit++ {
		terms, e := erasure.Combination(c, have, unit)
		refused(t, "P8.3: Combination", terms, e, api.ErrArg)
		if erasure.Recoverable(c, have, unit) {
			t.Fatalf("P8.4: Recoverable(%v, %v, %d) is true", c, have, unit)
		}
	}
	unitsRefused(t, c, units, have)
}

// unitsRefused checks that Recover and Decode refuse their arguments.
func unitsRefused(t *testing.T, c api.Code, units []string, have []bool) {
	t.Helper()
	decoded, e := erasure.Decode(c, units, have)
	refused(t, "P8.5: Decode", decoded, e, api.ErrArg)
	for unit := -1; unit < 3; unit++ {
		got, e := erasure.Recover(c, units, have, unit)
		unitRefused(t, "P8.5: Recover", got, e, api.ErrArg)
	}
}

func TestNoUnit(t *testing.T) {
	r := rand.New(rand.NewSource(8))
	for _, c := range valid(r) {
		n := width(c)
		for _, present := range [][]bool{make([]bool, n), slices.Repeat([]bool{true}, n)} {
			for _, unit := range []int{-1, n, n + 1, math.MaxInt, math.MinInt} {
				terms, e := erasure.Combination(c, present, unit)
				refused(t, "P8.3: Combination of no unit", terms, e, api.ErrArg)
				if erasure.Recoverable(c, present, unit) {
					t.Fatalf("P8.4: Recoverable(%v, %v, %d) is true", c, present, unit)
				}
				got, e := erasure.Recover(c, make([]string, n), present, unit)
				unitRefused(t, "P8.5: Recover of no unit", got, e, api.ErrArg)
			}
		}
	}
}

// TestSums tests that Recover and Decode compute every unit from the basis, with units that do not form a stripe.
func TestSums(t *testing.T) {
	r := rand.New(rand.NewSource(9))
	for _, m := range sizes {
		for range 250 {
			c := anyCode(r, m)
			present, units := randomFlags(r, width(c)), randomUnits(r, m, width(c), 4)
			for i := range units {
				if !present[i] {
					units[i] = randomUnits(r, 8, 1, 9)[0]
				}
			}
			var all []string
			for unit := range units {
				terms, recoverable := termsByMatrix(c, present, unit)
				got, e := erasure.Recover(c, units, present, unit)
				if !recoverable {
					unitRefused(t, "P8.5: Recover", got, e, api.ErrLost)
					continue
				}
				want := add(m, terms, units)
				unitWanted(t, "P8.5: Recover", got, e, want)
				all = append(all, want)
			}
			got, e := erasure.Decode(c, units, present)
			if len(all) < width(c) {
				refused(t, "P8.5: Decode", got, e, api.ErrLost)
			} else {
				wanted(t, "P8.5: Decode", got, e, all)
			}
		}
	}
}

// TestStripes tests that the units of a stripe are recovered, whatever the other units contain that are not of the basis.
func TestStripes(t *testing.T) {
	r := rand.New(rand.NewSource(10))
	for _, m := range sizes {
		for range 250 {
			c := anyCode(r, m)
			original, e := erasure.Encode(c, randomUnits(r, m, c.Data, 4))
			if e != api.OK {
				t.Fatalf("P8.2: Encode with %v returned the error %d", c, e)
			}
			present := randomFlags(r, width(c))
			basis, _ := erasure.Basis(c, present)
			units := slices.Clone(original)
			for i := range units {
				if !slices.Contains(basis, i) {
					units[i] = string(make([]byte, len(units[i])))
				}
			}
			recovered := 0
			for unit := range units {
				got, e := erasure.Recover(c, units, present, unit)
				if erasure.Recoverable(c, present, unit) {
					unitWanted(t, "P8.6: Recover", got, e, original[unit])
					recovered++
				}
			}
			if erasure.Decodable(c, present) != (recovered == len(units)) {
				t.Fatalf("P8.4: Decodable(%v, %v), but %d units are recoverable", c, present, recovered)
			}
			if recovered == len(units) {
				got, e := erasure.Decode(c, units, present)
				wanted(t, "P8.6: Decode", got, e, original)
			}
		}
	}
}

// TestLengths tests the lengths of units: those of units that are not present do not matter, those of present units outside the
// basis do, and a wrong length precedes a lost unit.
func TestLengths(t *testing.T) {
	c := code()
	recovered := func(want api.Errno, have []bool, unit int, units ...string) {
		t.Helper()
		got, e := erasure.Recover(c, units, have, unit)
		if want == api.OK && e == want {
			return
		}
		unitRefused(t, "P8.5: Recover", got, e, want)
	}
	decoded := func(want api.Errno, have []bool, units ...string) {
		t.Helper()
		got, e := erasure.Decode(c, units, have)
		if want == api.OK && e == want {
			return
		}
		refused(t, "P8.5: Decode", got, e, want)
	}
	for _, m := range sizes {
		c.Field = m
		for unit := range 5 {
			recovered(api.OK, have("11100"), unit, "ab", "cd", "ef", "", "longer")
			recovered(api.ErrArg, have("11110"), unit, "ab", "cd", "ef", "", "ab")
			recovered(api.ErrArg, have("11101"), unit, "ab", "cd", "ef", "ab", "abcd")
			recovered(api.ErrArg, have("01001"), unit, "ab", "cd", "ab", "ab", "")
			recovered(api.OK, have("11111"), unit, "", "", "", "", "")
			recovered(api.ErrLost, have("00000"), unit, "a", "bcd", "", "ab", "abcdefg")
		}
		decoded(api.OK, have("01110"), "abc", "cd", "ef", "gh", "")
		decoded(api.ErrArg, have("01111"), "abc", "cd", "ef", "gh", "")
		decoded(api.ErrArg, have("00011"), "ab", "ab", "ab", "ab", "abcd")
		decoded(api.OK, have("11111"), "", "", "", "", "")
		decoded(api.ErrLost, have("00000"), "a", "bcd", "", "ab", "abcdefg")
		decoded(api.ErrLost, have("10001"), "ab", "a", "abc", "", "ab")
	}
	c.Field = 8
	recovered(api.OK, have("10001"), 1, "a", "", "bc", "", "d")
	recovered(api.ErrLost, have("10001"), 2, "a", "", "bc", "", "d")
	decoded(api.ErrLost, have("10001"), "a", "", "bc", "", "d")
	decoded(api.OK, have("10101"), "abc", "", "abc", "", "abc")
	c.Field = 16
	recovered(api.ErrArg, have("10001"), 1, "a", "", "bc", "", "d")
	recovered(api.ErrArg, have("10001"), 2, "a", "", "bc", "", "d")
	decoded(api.ErrArg, have("10001"), "a", "", "bc", "", "d")
	decoded(api.ErrArg, have("10101"), "abc", "", "abc", "", "abc")
}

// TestMorePresent tests that a unit remains recoverable if more units are present.
func TestMorePresent(t *testing.T) {
	r := rand.New(rand.NewSource(11))
	for _, m := range sizes {
		for range 60 {
			c := anyCode(r, m)
			present, before := make([]bool, width(c)), make([]bool, width(c))
			for _, more := range r.Perm(width(c)) {
				present[more] = true
				for unit := range present {
					now := erasure.Recoverable(c, present, unit)
					if before[unit] && !now || present[unit] && !now {
						t.Fatalf("P8.6: Recoverable(%v, %v, %d) is false", c, present, unit)
					}
					before[unit] = now
				}
				n := len(chosen(present))
				data := !slices.Contains(present[:c.Data], false)
				if got := erasure.Decodable(c, present); got && n < c.Data || data && !got {
					t.Fatalf("P8.6: Decodable(%v, %v) = %v", c, present, got)
				}
			}
		}
	}
}

func TestLinear(t *testing.T) {
	r := rand.New(rand.NewSource(12))
	xor := func(a, b []string) []string {
		l := make([]string, len(a))
		for i := range l {
			sum, e := field.Xor(a[i], b[i])
			if e != api.OK {
				t.Fatalf("P8.7: units of different lengths")
			}
			l[i] = sum
		}
		return l
	}
	for _, c := range valid(r) {
		both := randomUnits(r, c.Field, 2*c.Data, 5)
		a, b := both[:c.Data], both[c.Data:]
		one, _ := erasure.Encode(c, a)
		other, _ := erasure.Encode(c, b)
		got, e := erasure.Encode(c, xor(a, b))
		wanted(t, "P8.7: Encode", got, e, xor(one, other))
	}
}

// TestMemory tests that calls do not change their arguments, and that their results share no memory with them.
func TestMemory(t *testing.T) {
	r := rand.New(rand.NewSource(13))
	for _, m := range sizes {
		for range 30 {
			c := anyCode(r, m)
			units, present := randomUnits(r, m, width(c), 3), randomFlags(r, width(c))
			parity, before, flags := slices.Concat(c.Parity...), slices.Clone(units), slices.Clone(present)
			for range 2 {
				generator, _ := erasure.Generator(c)
				clear(generator.Cell)
				// Encode gets a part of a list, which it must not continue.
				encoded, _ := erasure.Encode(c, units[:c.Data])
				decoded, _ := erasure.Decode(c, units, present)
				basis, _ := erasure.Basis(c, present)
				for unit := range units {
					terms, _ := erasure.Combination(c, present, unit)
					erasure.Recover(c, units, present, unit)
					clear(terms)
				}
				clear(encoded)
				clear(decoded)
				clear(basis)
				if !slices.Equal(slices.Concat(c.Parity...), parity) || !slices.Equal(units, before) || !slices.Equal(present, flags) {
					t.Fatalf("a call changed an argument, or its result shares memory with one")
				}
			}
		}
	}
}

// FuzzDecode tests decisions and sums against package matrix.
func FuzzDecode(f *testing.F) {
	f.Add(false, uint8(3), []byte{1, 1, 1, 1, 2, 0}, uint32(0b11110), []byte("content"))
	f.Add(true, uint8(1), []byte{255}, uint32(2), []byte{0, 1})
	f.Add(false, uint8(4), []byte{1, 1, 0, 0, 0, 0, 1, 1, 1, 2, 4, 8}, uint32(0b1110011), []byte{})
	f.Fuzz(func(t *testing.T, large bool, data uint8, cells []byte, set uint32, content []byte) {
		c := api.Code{Field: 8, Data: 1 + int(data%8)}
		if large {
			c.Field = 16
		}
		for ; len(cells) >= c.Data && len(c.Parity) < 8; cells = cells[c.Data:] {
			row := make([]int, c.Data)
			for j := range row {
				row[j] = int(cells[j]) << (c.Field - 8) >> (j % 2 * (c.Field - 8))
			}
			if slices.Max(row) > 0 {
				c.Parity = append(c.Parity, row)
			}
		}
		if !erasure.Valid(c) {
			t.Fatalf("P8.1: Valid(%v) is false", c)
		}
		n := len(content) / width(c) / 2 * 2
		var units []string
		for i := range width(c) {
			units = append(units, string(content[i*n:(i+1)*n]))
		}
		present := flags(width(c), int(set))
		basis, e := erasure.Basis(c, present)
		wanted(t, "P8.3: Basis", basis, e, basisByMatrix(c, present))
		for unit := range units {
			want, recoverable := termsByMatrix(c, present, unit)
			checkCombination(t, c, present, basis, unit, recoverable)
			got, e := erasure.Recover(c, units, present, unit)
			if recoverable {
				unitWanted(t, "P8.5: Recover", got, e, add(c.Field, want, units))
			} else {
				unitRefused(t, "P8.5: Recover", got, e, api.ErrLost)
			}
		}
	})
}

// FuzzArguments tests that no argument leads to a panic, and that errors are those of P8.2 to P8.5.
func FuzzArguments(f *testing.F) {
	f.Add(8, 3, 2, 3, 1, uint64(0b10001), uint64(0b11111), 5, 5, 2)
	f.Add(16, 1, 33, 1, 65535, uint64(1), uint64(0), 1, 2, 0)
	f.Add(8, -1, 1, 0, 0, uint64(0), uint64(0), 0, 0, 0)
	f.Fuzz(func(t *testing.T, m, data, parity, length, cell int, set, sizes uint64, haves, units, unit int) {
		c := api.Code{Field: m, Data: data}
		for i := range uint(parity) % 40 {
			row := make([]int, uint(length)%40)
			for j := range row {
				row[j] = cell >> ((int(i) + j) % 8)
			}
			c.Parity = append(c.Parity, row)
		}
		present, list := flags(int(uint(haves)%64), int(set)), make([]string, uint(units)%64)
		for i := range list {
			list[i] = string(make([]byte, sizes>>i&1))
		}
		decoded, e := erasure.Decode(c, list, present)
		if e != api.OK && e != api.ErrArg && e != api.ErrLost || e != api.OK && len(decoded) != 0 {
			t.Fatalf("P8.5: Decode = %v, %d", decoded, e)
		}
		if wrong := !erasure.Valid(c) || len(present) != width(c) || len(list) != width(c); wrong && e != api.ErrArg {
			t.Fatalf("P8.5: Decode = %v, %d with wrong arguments", decoded, e)
		}
		got, e := erasure.Recover(c, list, present, unit)
		if e != api.OK && got != "" || e == api.OK && !erasure.Recoverable(c, present, unit) {
			t.Fatalf("P8.5: Recover = %v, %d", got, e)
		}
		if _, e := erasure.Encode(c, list); (e == api.OK) != (erasure.Valid(c) && len(list) == data && lengthsFit(m, list)) {
			t.Fatalf("P8.2: Encode(%v, %v) returned the error %d", c, list, e)
		}
	})
}

// lengthsFit reports whether units of at most one byte can be added.
func lengthsFit(m int, units []string) bool {
	return len(slices.Compact(slices.Clone(units))) <= 1 && (m == 8 || !slices.Contains(units, "\x00"))
}
