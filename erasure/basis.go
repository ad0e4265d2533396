package erasure

import (
	"solvent/api"
	"solvent/field"
)

// A basis is the basis of the present units of a stripe, with one reduced row for each of its units. The elements of a reduced row
// after the first generator.Cols ones are the coefficients with which the rows of the units of the basis add up to it.
type basis struct {
	generator api.Matrix
	units     []int   // the units of the basis
	rows      [][]int // the reduced rows
	pivots    []int   // for each reduced row, a column in which it has a 1, and all later ones have a 0
}

// basisOf returns the basis of the present units.
func basisOf(c api.Code, have []bool) (basis, api.Errno) {
	if !isPerUnit(c, have) {
		return basis{}, api.ErrArg
	}
	generator, _ := Generator(c)
	b := basis{generator: generator}
units:
	for unit, present := range have {
		if !present {
			continue
		}
		if b.isFull() {
			break // every further row is a combination of those of the basis
		}
		row := b.reduced(unit)
		pivot := 0
		for row[pivot] == 0 {
			pivot++
			if pivot == c.Data {
				continue units
			}
		}
		b.extend(unit, row, pivot)
	}
	return b, api.OK
}

// isFull reports whether all rows are combinations of those of the basis.
func (b *basis) isFull() bool { return len(b.units) == b.generator.Cols }

// reduced returns the row of a unit plus those multiples of reduced rows that make it 0 in all pivot columns, followed by the
// coefficients with which the rows of the units of the basis add up to what was added. If the result is 0 otherwise, these are
// the coefficients of the unit, because every element is its own negative.
func (b *basis) reduced(unit int) []int {
	m, cols := b.generator.Field, b.generator.Cols
	row := make([]int, 2*cols)
	copy(row, b.generator.Cell[unit*cols:(unit+1)*cols])
	add := func(terms []int, factor int) {
		for i, term := range terms {
			product, _ := field.Mul(m, factor, term)
			row[i], _ = field.Add(m, row[i], product)
		}
	}
	for i, pivot := range b.pivots {
		if factor := row[pivot]; factor != 0 {
			add(b.rows[i], factor)
		}
	}
	return row
}

// extend adds a unit to the basis, whose reduced row is not 0 in the column pivot.
func (b *basis) extend(unit int, row []int, pivot int) {
	m := b.generator.Field
	row[b.generator.Cols+len(b.units)] = 1
	inverse, _ := field.Inv(m, row[pivot])
	for i, x := range row {
		row[i], _ = field.Mul(m, inverse, x)
	}
	b.units, b.rows, b.pivots = append(b.units, unit), append(b.rows, row), append(b.pivots, pivot)
}

// terms returns the terms of a unit whose coefficients are not 0.
func (b *basis) terms(unit int) ([]api.Term, api.Errno) {
	row := b.reduced(unit)
	for _, x := range row[:b.generator.Cols] {
		if x != 0 {
			return nil, api.ErrLost
		}
	}
	var terms []api.Term
	for i, coef := range row[b.generator.Cols:] {
		if coef != 0 {
			terms = append(terms, api.Term{Unit: b.units[i], Coef: coef})
		}
	}
	return terms, api.OK
}
