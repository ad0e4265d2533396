package xorplan_test

import (
	"math/big"
	"math/rand"
	"slices"

	"solvent/api"
)

// The references below use none of the packages of the program but api. Products are computed as those of polynomials, sets of
// inputs are the bits of big integers, common pairs are counted anew for every operation, and schedules run for each symbol
// separately.

var sizes = []int{8, 16}

// mul returns the product of two elements.
func mul(m, a, b int) int {
	p := 0
	for i := range m {
		p ^= a << i * (b >> i & 1)
	}
	polynomial := 0x11d
	if m == 16 {
		polynomial = 0x1100b
	}
	for i := m - 2; i >= 0; i-- {
		p ^= polynomial << i * (p >> (m + i) & 1)
	}
	return p
}

// symbolsOf returns the symbols of a unit.
func symbolsOf(m int, unit string) []int {
	var l []int
	for i := 0; i < len(unit); i += m / 8 {
		symbol := 0
		for _, b := range []byte(unit[i : i+m/8]) {
			symbol = symbol<<8 + int(b)
		}
		l = append(l, symbol)
	}
	return l
}

// unitOf returns the unit with these symbols.
func unitOf(m int, symbols []int) string {
	var l []byte
	for _, symbol := range symbols {
		for i := m - 8; i >= 0; i -= 8 {
			l = append(l, byte(symbol>>i))
		}
	}
	return string(l)
}

// parityOf returns the parity units of a code.
func parityOf(c api.Code, data []string) []string {
	var l []string
	for _, row := range c.Parity {
		sums := make([]int, len(symbolsOf(c.Field, data[0])))
		for j, unit := range data {
			for i, symbol := range symbolsOf(c.Field, unit) {
				sums[i] ^= mul(c.Field, row[j], symbol)
			}
		}
		l = append(l, unitOf(c.Field, sums))
	}
	return l
}

// valid reports whether a schedule is valid.
func valid(s api.Schedule) bool {
	within := func(x, low, high int) bool { return low <= x && x <= high }
	if s.Field != 8 && s.Field != 16 || !within(s.Data, 1, 32) || !within(s.Parity, 0, 31) || s.Data+s.Parity > 32 {
		return false
	}
	ok := len(s.Ops) <= 131072 && len(s.Out) == s.Parity*s.Field
	for i, op := range s.Ops {
		last := s.Data*s.Field + i - 1
		ok = ok && within(op.A, 0, last) && within(op.B, 0, last) && op.A != op.B
	}
	for _, x := range s.Out {
		ok = ok && within(x, -1, s.Data*s.Field+len(s.Ops)-1)
	}
	return ok
}

// same reports whether two schedules are equal.
func same(a, b api.Schedule) bool {
	sameSizes := a.Field == b.Field && a.Data == b.Data && a.Parity == b.Parity
	return sameSizes && slices.Equal(a.Ops, b.Ops) && slices.Equal(a.Out, b.Out)
}

// copyOf returns a copy of a schedule.
func copyOf(s api.Schedule) api.Schedule {
	s.Ops, s.Out = slices.Clone(s.Ops), slices.Clone(s.Out)
	return s
}

// setsOf returns the sets of the outputs of a schedule.
func setsOf(s api.Schedule) [][]int {
	var registers []*big.Int
	for x := range s.Data * s.Field {
		registers = append(registers, new(big.Int).SetBit(new(big.Int), x, 1))
	}
	for _, op := range s.Ops {
		registers = append(registers, new(big.Int).Xor(registers[op.A], registers[op.B]))
	}
	lists := make([][]int, len(s.Out))
	for i, out := range s.Out {
		for x := range s.Data * s.Field {
			if out >= 0 && registers[out].Bit(x) == 1 {
				lists[i] = append(lists[i], x)
			}
		}
	}
	return lists
}

// chained returns a schedule with the operations for lists of registers appended, one list after the other, and their outputs.
func chained(s api.Schedule, lists [][]int) api.Schedule {
	for _, l := range lists {
		if len(l) == 0 {
			s.Out = append(s.Out, -1)
			continue
		}
		for len(l) > 1 {
			s.Ops = append(s.Ops, api.XorOp{A: l[0], B: l[1]})
			l = append([]int{s.Data*s.Field + len(s.Ops) - 1}, l[2:]...)
		}
		s.Out = append(s.Out, l[0])
	}
	return s
}

// planeSets returns the sets of the planes of the parity units of a code.
func planeSets(c api.Code) [][]int {
	var lists [][]int
	for _, row := range c.Parity {
		for k := range c.Field {
			var l []int
			for x := range c.Data * c.Field {
				if mul(c.Field, row[x/c.Field], 1<<(x%c.Field))>>k%2 == 1 {
					l = append(l, x)
				}
			}
			lists = append(lists, l)
		}
	}
	return lists
}

// compiled returns the schedule of a code.
func compiled(c api.Code) api.Schedule {
	return chained(api.Schedule{Field: c.Field, Data: c.Data, Parity: len(c.Parity)}, planeSets(c))
}

// bestPair returns the pair of the first n registers that the most lists contain, the first one of several, and the number of
// these lists.
func bestPair(n int, lists [][]int) (a, b, count int) {
	counts := make([]uint16, n*n)
	for _, l := range lists {
		for i, x := range l {
			for _, y := range l[i+1:] {
				counts[x*n+y]++
			}
		}
	}
	most := slices.Max(counts)
	i := slices.Index(counts, most)
	return i / n, i % n, int(most)
}

// sharedPairs returns a schedule without outputs that computes common pairs of lists of registers, and the lists with the
// results instead.
func sharedPairs(s api.Schedule, lists [][]int) (api.Schedule, [][]int) {
	for {
		sum := s.Data*s.Field + len(s.Ops)
		a, b, count := bestPair(sum, lists)
		if count < 2 {
			return s, lists
		}
		s.Ops = append(s.Ops, api.XorOp{A: a, B: b})
		for i, l := range lists {
			if slices.Contains(l, a) && slices.Contains(l, b) {
				lists[i] = append(slices.DeleteFunc(slices.Clone(l), func(x int) bool { return x == a || x == b }), sum)
			}
		}
	}
}

// shortened returns what Shorten returns.
func shortened(s api.Schedule) api.Schedule {
	short := chained(sharedPairs(api.Schedule{Field: s.Field, Data: s.Data, Parity: s.Parity}, setsOf(s)))
	if len(short.Ops) < len(s.Ops) {
		return short
	}
	return s
}

// outcome returns the parity units that a schedule computes.
func outcome(s api.Schedule, data []string) []string {
	parity := make([][]int, s.Parity)
	var symbols [][]int
	for _, unit := range data {
		symbols = append(symbols, symbolsOf(s.Field, unit))
	}
	for at := range symbols[0] {
		var registers []int
		for x := range s.Data * s.Field {
			registers = append(registers, symbols[x/s.Field][at]>>(x%s.Field)%2)
		}
		for _, op := range s.Ops {
			registers = append(registers, (registers[op.A]+registers[op.B])%2)
		}
		for i := range parity {
			symbol := 0
			for k, x := range s.Out[i*s.Field : (i+1)*s.Field] {
				if x >= 0 {
					symbol += registers[x] << k
				}
			}
			parity[i] = append(parity[i], symbol)
		}
	}
	var l []string
	for _, symbols := range parity {
		l = append(l, unitOf(s.Field, symbols))
	}
	return l
}

// anyCode returns a code with numbers of data and parity units. Its coefficients are 0, 1 and others, in shares that differ.
func anyCode(r *rand.Rand, m, data, parity int) api.Code {
	c := api.Code{Field: m, Data: data}
	kind := r.Intn(4)
	for range parity {
		row := make([]int, data)
		for j := range row {
			if r.Intn(4) >= kind {
				row[j] = r.Intn(1 << m)
			} else {
				row[j] = r.Intn(2)
			}
		}
		row[r.Intn(data)] |= 1 << r.Intn(m)
		c.Parity = append(c.Parity, row)
	}
	return c
}

// anySchedule returns a valid schedule with n operations, of which each has operands that are close to it, or any.
func anySchedule(r *rand.Rand, m, data, parity, n int) api.Schedule {
	s := api.Schedule{Field: m, Data: data, Parity: parity}
	near := r.Intn(40) + 2
	for i := range n {
		last := data*m + i - 1
		operand := func() int {
			if r.Intn(2) == 0 {
				return last - r.Intn(min(near, last+1))
			}
			return r.Intn(last + 1)
		}
		op := api.XorOp{A: operand(), B: operand()}
		for op.A == op.B {
			op.B = r.Intn(last + 1)
		}
		s.Ops = append(s.Ops, op)
	}
	for range parity * m {
		s.Out = append(s.Out, r.Intn(data*m+n+1)-1)
	}
	return s
}

// anySets returns a schedule whose outputs have sets that contain each input with a probability, without any sharing.
func anySets(r *rand.Rand, m, data, parity int, probability float64) api.Schedule {
	lists := make([][]int, parity*m)
	for i := range lists {
		for x := range data * m {
			if r.Float64() < probability {
				lists[i] = append(lists[i], x)
			}
		}
	}
	return chained(api.Schedule{Field: m, Data: data, Parity: parity}, lists)
}

// anyUnits returns units of the same length.
func anyUnits(r *rand.Rand, n, length int) []string {
	var l []string
	for range n {
		b := make([]byte, length)
		r.Read(b)
		l = append(l, string(b))
	}
	return l
}
