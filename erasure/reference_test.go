package erasure_test

import (
	"math/rand"
	"slices"

	"solvent/api"
	"solvent/field"
	"solvent/matrix"
)

// The references below do not use package erasure. For small codes, all stripes with data from a small subfield are listed: a
// unit is recoverable unless it differs in two stripes that agree in the present units. For large codes, package matrix decides.

var sizes = []int{8, 16}

// mul returns the product of two elements.
func mul(m, a, b int) int {
	p, e := field.Mul(m, a, b)
	if e != api.OK {
		panic("an argument of a product")
	}
	return p
}

// subfield returns the elements of the subfield with q elements, first 0.
func subfield(m, q int) []int {
	generator, _ := field.Pow(m, 2, (1<<m-1)/(q-1))
	l := []int{0, 1}
	for len(l) < q {
		l = append(l, mul(m, l[len(l)-1], generator))
	}
	return l
}

// width returns the number of units of a stripe of a valid code.
func width(c api.Code) int { return c.Data + len(c.Parity) }

// rows returns the rows of all units.
func rows(c api.Code) [][]int {
	var l [][]int
	for j := range c.Data {
		row := make([]int, c.Data)
		row[j] = 1
		l = append(l, row)
	}
	return append(l, c.Parity...)
}

// dot returns the sum of the products of two lists of elements.
func dot(m int, a, b []int) int {
	sum := 0
	for i := range a {
		sum ^= mul(m, a[i], b[i])
	}
	return sum
}

// zeros returns, for each stripe with data from these elements, the set of the units that are 0, as bits.
func zeros(c api.Code, elements []int) []int {
	var l []int
	data := make([]int, c.Data)
	var fill func(j int)
	fill = func(j int) {
		if j < c.Data {
			for _, x := range elements {
				data[j] = x
				fill(j + 1)
			}
			return
		}
		set := 0
		for unit, row := range rows(c) {
			if dot(c.Field, row, data) == 0 {
				set |= 1 << unit
			}
		}
		l = append(l, set)
	}
	fill(0)
	return l
}

// determined reports whether a unit is 0 in all stripes in which the present units are 0, so that it does not differ in two
// stripes that agree in these.
func determined(stripes []int, present, unit int) bool {
	for _, zero := range stripes {
		if zero&present == present && zero>>unit&1 == 0 {
			return false
		}
	}
	return true
}

// flags returns the lowest n bits of a set as a list.
func flags(n, set int) []bool {
	l := make([]bool, n)
	for i := range l {
		l[i] = set>>i&1 == 1
	}
	return l
}

// chosen returns the indices whose flags are set.
func chosen(have []bool) []int {
	var l []int
	for i, present := range have {
		if present {
			l = append(l, i)
		}
	}
	return l
}

// picked returns the matrix of the rows of these units.
func picked(c api.Code, units []int) api.Matrix {
	a := api.Matrix{Field: c.Field, Rows: len(units), Cols: c.Data}
	for _, unit := range units {
		a.Cell = append(a.Cell, rows(c)[unit]...)
	}
	return a
}

// basisByMatrix returns the basis of the present units.
func basisByMatrix(c api.Code, have []bool) []int {
	present := chosen(have)
	var l []int
	for _, i := range matrix.Independent(picked(c, present)) {
		l = append(l, present[i])
	}
	return l
}

// termsByMatrix returns the terms of a unit, and false if it is not recoverable.
func termsByMatrix(c api.Code, have []bool, unit int) ([]api.Term, bool) {
	basis := basisByMatrix(c, have)
	a, _ := matrix.Transpose(picked(c, basis))
	b, _ := matrix.Transpose(picked(c, []int{unit}))
	x, e := matrix.Solve(a, b)
	if e != api.OK {
		return nil, false
	}
	var l []api.Term
	for i, coef := range x.Cell {
		if coef != 0 {
			l = append(l, api.Term{Unit: basis[i], Coef: coef})
		}
	}
	return l, true
}

// add returns the sum of the terms, symbol by symbol.
func add(m int, terms []api.Term, units []string) string {
	var sum []byte
	size := m / 8
	for i := 0; i < len(units[terms[0].Unit]); i += size {
		x := 0
		for _, term := range terms {
			symbol := 0
			for _, b := range []byte(units[term.Unit][i : i+size]) {
				symbol = symbol<<8 | int(b)
			}
			x ^= mul(m, term.Coef, symbol)
		}
		if m == 16 {
			sum = append(sum, byte(x>>8))
		}
		sum = append(sum, byte(x))
	}
	return string(sum)
}

// stripe returns the units of a stripe with these data units.
func stripe(c api.Code, data []string) []string {
	units := slices.Clone(data)
	for _, row := range c.Parity {
		var terms []api.Term
		for j, coef := range row {
			terms = append(terms, api.Term{Unit: j, Coef: coef})
		}
		units = append(units, add(c.Field, terms, data))
	}
	return units
}

// randomCode returns a valid code with these elements, the first of which is 0.
func randomCode(r *rand.Rand, m, data, parity int, elements []int) api.Code {
	c := api.Code{Field: m, Data: data}
	for range parity {
		row := make([]int, data)
		for j := range row {
			row[j] = elements[r.Intn(len(elements))]
		}
		if slices.Max(row) == 0 {
			row[r.Intn(data)] = elements[1+r.Intn(len(elements)-1)]
		}
		c.Parity = append(c.Parity, row)
	}
	return c
}

// anyCode returns a valid code of any width, often with local or dependent rows.
func anyCode(r *rand.Rand, m int) api.Code {
	data := 1 + r.Intn(api.MaxWidth)
	elements := []int{0, 1, 2, 3, 1<<m - 1, 1 + r.Intn(1<<m-1)}[:2+r.Intn(5)]
	c := randomCode(r, m, data, r.Intn(api.MaxWidth-data+1), elements)
	for i, row := range c.Parity {
		switch r.Intn(6) {
		case 0: // a local row
			clear(row)
			row[r.Intn(data)] = 1 + r.Intn(1<<m-1)
		case 1: // a multiple of another row
			factor := 1 + r.Intn(1<<m-1)
			for j, x := range c.Parity[r.Intn(i+1)] {
				row[j] = mul(m, factor, x)
			}
		case 2: // all elements
			for j := range row {
				row[j] = 1 + r.Intn(1<<m-1)
			}
		}
	}
	return c
}

// cauchy returns a code whose stripes are decodable from any Data units: its parity is a Cauchy matrix, of the inverses of the
// sums of different elements.
func cauchy(m, data, parity int) api.Code {
	c := api.Code{Field: m, Data: data}
	for i := range parity {
		row := make([]int, data)
		for j := range row {
			row[j], _ = field.Inv(m, (data+i)^j)
		}
		c.Parity = append(c.Parity, row)
	}
	return c
}

// randomUnits returns n units of the same length, at most size symbols.
func randomUnits(r *rand.Rand, m, n, size int) []string {
	length := r.Intn(size+1) * m / 8
	l := make([]string, n)
	for i := range l {
		b := make([]byte, length)
		r.Read(b)
		l[i] = string(b)
	}
	return l
}

// randomFlags returns flags that are set with a random probability.
func randomFlags(r *rand.Rand, n int) []bool {
	l, limit := make([]bool, n), r.Intn(11)
	for i := range l {
		l[i] = r.Intn(10) < limit
	}
	return l
}
