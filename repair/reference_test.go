package repair_test

import (
	"math/bits"
	"math/rand"
	"slices"

	"solvent/api"
	"solvent/field"
	"solvent/matrix"
)

// The references below use neither package repair nor package erasure. Lists of units are sets of bits; package matrix finds the
// basis of the present units, and the only coefficients with which independent rows add up to another row.

var sizes = []int{8, 16}

// mul returns the product of two elements.
func mul(m, a, b int) int {
	p, e := field.Mul(m, a, b)
	if e != api.OK {
		panic("an argument of a product")
	}
	return p
}

// width returns the number of units of a stripe of a valid code.
func width(c api.Code) int { return c.Data + len(c.Parity) }

// bit returns the set of one unit.
func bit(unit int) int { return 1 << unit }

// unitsOf returns the elements of a set.
func unitsOf(set int) []int {
	var l []int
	for ; set != 0; set &= set - 1 {
		l = append(l, bits.TrailingZeros(uint(set)))
	}
	return l
}

// flags returns the lowest n bits of a set as a list.
func flags(n, set int) []bool {
	l := make([]bool, n)
	for i := range l {
		l[i] = set>>i&1 == 1
	}
	return l
}

// setOf returns the set of the units that are present.
func setOf(have []bool) int {
	set := 0
	for unit, present := range have {
		if present {
			set |= bit(unit)
		}
	}
	return set
}

// checkSet returns the check of parity unit i.
func checkSet(c api.Code, i int) int {
	set := bit(c.Data + i)
	for j, coef := range c.Parity[i] {
		if coef > 0 {
			set += bit(j)
		}
	}
	return set
}

// checksOf returns the checks that contain a unit.
func checksOf(c api.Code, unit int) []int {
	var l []int
	for i := range c.Parity {
		if set := checkSet(c, i); set&bit(unit) != 0 {
			l = append(l, set)
		}
	}
	return l
}

// picked returns the matrix of the rows of the units of a set.
func picked(c api.Code, set int) api.Matrix {
	a := api.Matrix{Field: c.Field, Rows: bits.OnesCount(uint(set)), Cols: c.Data}
	for _, unit := range unitsOf(set) {
		row := make([]int, c.Data)
		if unit < c.Data {
			row[unit] = 1
		} else {
			row = c.Parity[unit-c.Data]
		}
		a.Cell = append(a.Cell, row...)
	}
	return a
}

// basisOf returns the basis of the present units.
func basisOf(c api.Code, present int) int {
	units, set := unitsOf(present), 0
	for _, i := range matrix.Independent(picked(c, present)) {
		set |= bit(units[i])
	}
	return set
}

// termsFrom returns the terms with which the units of a set, whose rows are independent, add up to another unit, and false if
// they do not.
func termsFrom(c api.Code, set, unit int) ([]api.Term, bool) {
	a, _ := matrix.Transpose(picked(c, set))
	b, _ := matrix.Transpose(picked(c, bit(unit)))
	x, e := matrix.Solve(a, b)
	if e != api.OK {
		return nil, false
	}
	var l []api.Term
	for i, read := range unitsOf(set) {
		if coef := x.Cell[i]; coef != 0 {
			l = append(l, api.Term{Unit: read, Coef: coef})
		}
	}
	return l, true
}

// better reports whether a set of reads is preferred to another one. Of two lists of the same length, the lexicographically
// smaller one has the least unit that is only in one of them.
func better(reads, than int) bool {
	n, m := bits.OnesCount(uint(reads)), bits.OnesCount(uint(than))
	differ := reads ^ than
	return n < m || n == m && reads&(differ&-differ) != 0
}

// planned returns the terms of the plan for a unit, and false if there is none.
func planned(c api.Code, present, unit int) ([]api.Term, bool) {
	present &^= bit(unit)
	best := -1 // all units, and more
	for _, check := range checksOf(c, unit) {
		if reads := check &^ bit(unit); reads&^present == 0 && better(reads, best) {
			best = reads
		}
	}
	if terms, ok := termsFrom(c, basisOf(c, present), unit); ok {
		reads := 0
		for _, term := range terms {
			reads |= bit(term.Unit)
		}
		if better(reads, best) {
			best = reads
		}
	}
	if best == -1 {
		return nil, false
	}
	return termsFrom(c, best, unit)
}

// sum returns the sum of the terms, symbol by symbol.
func sum(m int, terms []api.Term, units []string) string {
	var l []byte
	size := m / 8
	for i := 0; i < len(units[terms[0].Unit]); i += size {
		x := 0
		for _, term := range terms {
			symbol := 0
			for _, b := range []byte(units[term.Unit][i : i+size]) {
				symbol = symbol<<8 | int(b)
			}
			x ^= mul(m, term.Coef, symbol)
		}
		if m == 16 {
			l = append(l, byte(x>>8))
		}
		l = append(l, byte(x))
	}
	return string(l)
}

// stripe returns the units of a stripe with these data units.
func stripe(c api.Code, data []string) []string {
	units := slices.Clone(data)
	for _, row := range c.Parity {
		var terms []api.Term
		for j, coef := range row {
			terms = append(terms, api.Term{Unit: j, Coef: coef})
		}
		units = append(units, sum(c.Field, terms, data))
	}
	return units
}

// anyRow returns a row that may stand at the end of the parity: one that reads a few data units or most of them, or one that
// depends on others.
func anyRow(r *rand.Rand, c api.Code) []int {
	row := make([]int, c.Data)
	last := []int{1, 1, 2, 3, 1<<c.Field - 1, 1 + r.Intn(1<<c.Field-1)}[r.Intn(6)]
	switch kind := r.Intn(5); {
	case kind == 0 && len(c.Parity) > 0: // the sum of multiples of two rows, which may be the same
		for range 2 {
			factor := 1 + r.Intn(3)
			for j, x := range c.Parity[r.Intn(len(c.Parity))] {
				row[j] ^= mul(c.Field, factor, x)
			}
		}
	case kind <= 2: // a few units
		for range 1 + r.Intn(4) {
			row[r.Intn(c.Data)] = 1 + r.Intn(2)*r.Intn(1<<c.Field-1)
		}
	case kind == 3: // most units, with the same coefficient
		for j := range row {
			row[j] = last * min(1, r.Intn(4))
		}
	default:
		for j := range row {
			row[j] = r.Intn(1 << c.Field)
		}
	}
	if slices.Max(row) == 0 {
		row[r.Intn(c.Data)] = last
	}
	return row
}

// anyCode returns a valid code with these numbers of units.
func anyCode(r *rand.Rand, m, data, parity int) api.Code {
	c := api.Code{Field: m, Data: data}
	for range parity {
		c.Parity = append(c.Parity, anyRow(r, c))
	}
	return c
}

// anyWidth returns a valid code of any width.
func anyWidth(r *rand.Rand, m int) api.Code {
	data := 1 + r.Intn(api.MaxWidth)
	return anyCode(r, m, data, r.Intn(api.MaxWidth-data+1))
}

// fewMissing returns a set of present units of n, often with few missing ones.
func fewMissing(r *rand.Rand, n int) int {
	set := bit(n) - 1
	for range r.Intn(1 + r.Intn(n+1)) {
		set &^= bit(r.Intn(n))
	}
	return set
}

// randomUnits returns n units of the same length, at most size symbols.
func randomUnits(r *rand.Rand, m, n, size int) []string {
	length := r.Intn(size+1) * m / 8
	l := make([]string, n)
	for i := range l {
		b := make([]byte, length)
		r.Read(b)
		l[i] = string(b)
	}
	return l
}
