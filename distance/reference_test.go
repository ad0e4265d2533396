package distance_test

import (
	"math/bits"
	"math/rand"
	"slices"

	"solvent/api"
	"solvent/field"
	"solvent/matrix"
)

// The references below do not use package erasure. For small codes, the units that are not 0 are listed for all stripes with data
// from a small subfield: missing units are fatal if they include all units that are not 0 in one of these stripes, because that
// stripe cannot be told from one of zeros then. For large codes, package matrix decides.

var sizes = []int{8, 16}

// mul returns the product of two elements.
func mul(m, a, b int) int {
	p, e := field.Mul(m, a, b)
	if e != api.OK {
		panic("an argument of a product")
	}
	return p
}

// subfield returns the elements of the subfield with q elements, first 0.
func subfield(m, q int) []int {
	generator, _ := field.Pow(m, 2, (1<<m-1)/(q-1))
	l := []int{0, 1}
	for len(l) < q {
		l = append(l, mul(m, l[len(l)-1], generator))
	}
	return l
}

// width returns the number of units of a stripe of a valid code.
func width(c api.Code) int { return c.Data + len(c.Parity) }

// supports returns the sets of the units that are not 0, as bits, of all stripes with data from these elements but that of zeros.
// Each set occurs once.
func supports(c api.Code, elements []int) []int {
	var l []int
	sums := make([]int, len(c.Parity))
	var fill func(j, set int)
	fill = func(j, set int) {
		if j == c.Data {
			for i, sum := range sums {
				if sum != 0 {
					set |= 1 << (c.Data + i)
				}
			}
			if set != 0 {
				l = append(l, set)
			}
			return
		}
		for _, x := range elements {
			add := func() {
				for i, row := range c.Parity {
					sums[i] ^= mul(c.Field, row[j], x)
				}
			}
			bit := 0
			if x != 0 {
				bit = 1 << j
			}
			add()
			fill(j+1, set|bit)
			add() // the second time, it takes the product away
		}
	}
	fill(0, 0)
	slices.Sort(l)
	return slices.Compact(l)
}

// unitsOf returns the elements of a set.
func unitsOf(set int) []int {
	var l []int
	for ; set != 0; set &= set - 1 {
		l = append(l, bits.TrailingZeros(uint(set)))
	}
	return l
}

// flags returns the lowest n bits of a set as a list.
func flags(n, set int) []bool {
	l := make([]bool, n)
	for i := range l {
		l[i] = set>>i&1 == 1
	}
	return l
}

// judged returns what Left and Fatal have to return, from the supports of a code and the set of the present units.
func judged(supports []int, present int) (int, []int) {
	var fatal []int
	for i, support := range supports {
		units := unitsOf(support & present)
		if i == 0 || len(units) < len(fatal) || len(units) == len(fatal) && slices.Compare(units, fatal) < 0 {
			fatal = units
		}
	}
	if len(fatal) > api.MaxLoss {
		return api.MaxLoss, nil
	}
	return len(fatal) - 1, fatal
}

// racksJudged returns what Racks has to return, from the supports of a code.
func racksJudged(supports []int, racks []int) int {
	left := api.MaxLoss
	for _, support := range supports {
		hit := map[int]bool{}
		for _, unit := range unitsOf(support) {
			hit[racks[unit]] = true
		}
		left = min(left, len(hit)-1)
	}
	return left
}

// enough reports whether all data units can be computed from the units of a set.
func enough(c api.Code, set int) bool {
	a := api.Matrix{Field: c.Field, Cols: c.Data}
	for _, unit := range unitsOf(set) {
		row := make([]int, c.Data)
		if unit < c.Data {
			row[unit] = 1
		} else {
			row = c.Parity[unit-c.Data]
		}
		a.Cell = append(a.Cell, row...)
		a.Rows++
	}
	return matrix.Rank(a) == c.Data
}

// judgedByRank returns what Left and Fatal have to return, from the ranks of the rows of all sets of units.
func judgedByRank(c api.Code, present int) (int, []int) {
	units := unitsOf(present)
	for size := 0; size <= api.MaxLoss; size++ {
		if lost, fatal := firstFatal(c, present, units, size); fatal {
			return size - 1, unitsOf(lost)
		}
	}
	return api.MaxLoss, nil
}

// firstFatal returns the first set of size units, of these, without which the others of the set present are not enough. (It
// takes a unit if and only if there is such a set with it and those that were taken before.)
func firstFatal(c api.Code, present int, units []int, size int) (int, bool) {
	if size == 0 {
		return 0, !enough(c, present)
	}
	for i, unit := range units {
		if lost, fatal := firstFatal(c, present&^(1<<unit), units[i+1:], size-1); fatal {
			return lost | 1<<unit, true
		}
	}
	return 0, false
}

// named returns the code with a name and a domain, so that it is valid.
func named(c api.Code) api.Code {
	c.Name, c.Domain = "c", 1
	return c
}

// randomCode returns a valid code with these elements, the first of which is 0.
func randomCode(r *rand.Rand, m, data, parity int, elements []int) api.Code {
	c := api.Code{Field: m, Data: data}
	for range parity {
		row := make([]int, data)
		for j := range row {
			row[j] = elements[r.Intn(len(elements))]
		}
		if slices.Max(row) == 0 {
			row[r.Intn(data)] = elements[1+r.Intn(len(elements)-1)]
		}
		c.Parity = append(c.Parity, row)
	}
	return named(c)
}

// cauchy returns a code whose stripes are decodable from any Data units, and from no fewer: its parity is a Cauchy matrix, of the
// inverses of the sums of different elements.
func cauchy(m, data, parity int) api.Code {
	c := api.Code{Field: m, Data: data}
	for i := range parity {
		row := make([]int, data)
		for j := range row {
			row[j], _ = field.Inv(m, (data+i)^j)
		}
		c.Parity = append(c.Parity, row)
	}
	return named(c)
}

// systematic returns the code of zeros and ones whose parity units are given by the columns, one for each data unit.
func systematic(m, parity int, columns []int) api.Code {
	c := api.Code{Field: m, Data: len(columns)}
	for i := range parity {
		row := make([]int, len(columns))
		for j, column := range columns {
			row[j] = column >> i & 1
		}
		c.Parity = append(c.Parity, row)
	}
	return named(c)
}

// cyclic returns the columns of the cyclic binary code with this generator polynomial (bit i is the coefficient of x^i): those of
// data unit j are the coefficients of the remainder of x^(degree+j).
func cyclic(generator, data int) []int {
	degree := bits.Len(uint(generator)) - 1
	var l []int
	x := generator &^ (1 << degree)
	for range data {
		l = append(l, x)
		x <<= 1
		if x>>degree == 1 {
			x ^= generator
		}
	}
	return l
}

// randomRacks returns a list of n racks, of at most limit different ones.
func randomRacks(r *rand.Rand, n, limit int) []int {
	names := []int{0, 1, 2, 3, 7, -1, 64, -1 << 63, 1<<63 - 1, 1 << 32}
	for len(names) < limit {
		names = append(names, 100+len(names))
	}
	r.Shuffle(len(names), func(i, j int) { names[i], names[j] = names[j], names[i] })
	l := make([]int, n)
	for i := range l {
		l[i] = names[r.Intn(limit)]
	}
	return l
}
