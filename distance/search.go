package distance

import (
	"iter"
	"slices"

	"solvent/api"
	"solvent/erasure"
)

// losses returns how many of the parts of a stripe, any, may be lost in addition to the units that are not present, and the units
// of the first smallest set of parts that may not be lost. The code is valid. Fewer than MaxLoss parts are no special case,
// because the stripe does not survive the loss of all of them.
func losses(c api.Code, have []bool, parts [][]int) (int, []int) {
	for size := range api.MaxLoss + 1 {
		for lost := range unions(parts, size) {
			if !sufficient(c, without(have, lost)) {
				return size - 1, lost
			}
		}
	}
	return api.MaxLoss, nil
}

// unions returns an iterator over the unions of size parts, in the lexicographic order of the sets of parts. A union is valid
// until the next one is visited.
func unions(parts [][]int, size int) iter.Seq[[]int] {
	return func(yield func([]int) bool) { visit(nil, parts, size, yield) }
}

// visit yields the unions of the units and of size parts. It returns false if yield does.
func visit(units []int, parts [][]int, size int, yield func([]int) bool) bool {
	if size == 0 {
		return yield(units)
	}
	for i, part := range parts {
		if !visit(append(units, part...), parts[i+1:], size-1, yield) {
			return false
		}
	}
	return true
}

// without returns the list of the present units without those that are lost.
func without(have []bool, lost []int) []bool {
	left := slices.Clone(have)
	for _, unit := range lost {
		left[unit] = false
	}
	return left
}

// sufficient reports whether all data units can be computed from the present units. The present data units can be taken out of
// the parity units, so that it remains to decode a stripe of the missing ones. Its code is much smaller than c, which matters
// because there are up to 41449 sets of at most MaxLoss units.
func sufficient(c api.Code, have []bool) bool {
	var missing []int
	for unit, present := range have[:c.Data] {
		if !present {
			missing = append(missing, unit)
		}
	}
	if len(missing) == 0 {
		return true
	}
	rest := api.Code{Field: c.Field, Data: len(missing)}
	for i, row := range c.Parity {
		if !have[c.Data+i] {
			continue
		}
		if coefs := picked(row, missing); slices.Max(coefs) > 0 {
			rest.Parity = append(rest.Parity, coefs)
		}
	}
	return erasure.Decodable(rest, slices.Concat(make([]bool, rest.Data), slices.Repeat([]bool{true}, len(rest.Parity))))
}

// picked returns the elements with these indices.
func picked(row, indices []int) []int {
	l := make([]int, len(indices))
	for i, index := range indices {
		l[i] = row[index]
	}
	return l
}
