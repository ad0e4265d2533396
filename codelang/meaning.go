package codelang

import (
	"slices"
	"strconv"

	"solvent/api"
)

// Parse returns the code of a text.
func Parse(text string) (api.Code, int, api.Errno) {
	found, at, e := read(text, (*parser).single)
	if e != api.OK {
		return api.Code{}, at, e
	}
	return found[0].code()
}

// ParseAll returns the codes of a text.
func ParseAll(text string) ([]api.Code, int, api.Errno) {
	found, at, e := read(text, (*parser).list)
	if e != api.OK {
		return nil, at, e
	}
	var codes []api.Code
	for i, d := range found {
		if i >= api.MaxCode {
			return nil, d.name.at, api.ErrLimit
		}
		if slices.ContainsFunc(codes, func(c api.Code) bool { return c.Name == d.name.text }) {
			return nil, d.name.at, api.ErrName
		}
		c, at, e := d.code()
		if e != api.OK {
			return nil, at, e
		}
		codes = append(codes, c)
	}
	return codes, 0, api.OK
}

// code returns the code that is defined, or the first error and its offset.
func (d definition) code() (api.Code, int, api.Errno) {
	c := api.Code{Name: d.name.text, Field: d.field.value(), Data: d.data.value()}
	switch {
	case len(c.Name) > api.MaxName:
		return api.Code{}, d.name.at, api.ErrLimit
	case !isField(c.Field):
		return api.Code{}, d.field.at, api.ErrArg
	case !isData(c.Data):
		return api.Code{}, d.data.at, api.ErrArg
	}
	for _, r := range d.rows {
		if width(c) == api.MaxWidth {
			return api.Code{}, r.word.at, api.ErrLimit
		}
		cells, at, e := r.cells(c.Field, c.Data)
		if e != api.OK {
			return api.Code{}, at, e
		}
		c.Parity = append(c.Parity, cells)
	}
	c.Domain = width(c)
	if d.domain.text != "" {
		c.Domain = d.domain.value()
	}
	if !isDomain(c, c.Domain) {
		return api.Code{}, d.domain.at, api.ErrArg
	}
	return c, 0, api.OK
}

// cells returns all coefficients of a row, or the first error and its offset.
func (r row) cells(field, data int) ([]int, int, api.Errno) {
	if r.word.text == "local" {
		return r.localCells(field, data)
	}
	return r.parityCells(field, data)
}

func (r row) parityCells(field, data int) ([]int, int, api.Errno) {
	if len(r.coefs) != data {
		return nil, r.word.at, api.ErrArg
	}
	cells := make([]int, data)
	for j, coef := range r.coefs {
		cells[j] = coef.value()
		if !isCoef(field, cells[j]) {
			return nil, coef.at, api.ErrArg
		}
	}
	if isZero(cells) {
		return nil, r.word.at, api.ErrArg
	}
	return cells, 0, api.OK
}

func (r row) localCells(field, data int) ([]int, int, api.Errno) {
	least := 0
	for _, index := range r.indices {
		j := index.value()
		if j < least || j >= data {
			return nil, index.at, api.ErrArg
		}
		least = j + 1
	}
	if len(r.coefs) != len(r.indices) {
		return nil, r.word.at, api.ErrArg
	}
	cells := make([]int, data)
	for k, coef := range r.coefs {
		n := coef.value()
		if n == 0 || !isCoef(field, n) {
			return nil, coef.at, api.ErrArg
		}
		cells[r.indices[k].value()] = n
	}
	return cells, 0, api.OK
}

// value returns the value of a number.
func (t token) value() int {
	n, _ := strconv.Atoi(t.text) // a number has at most five digits, which are ASCII
	return n
}
