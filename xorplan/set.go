package xorplan

import (
	"math/bits"

	"solvent/api"
)

// set is a set of inputs, or of outputs: both are planes, of which a schedule has at most MaxWidth * 16.
type set [api.MaxWidth * 16 / 64]uint64

// add adds an element.
func (s *set) add(i int) { s[i/64] |= 1 << (i % 64) }

// contains reports whether i is an element.
func (s *set) contains(i int) bool { return s[i/64]>>(i%64)&1 == 1 }

// elements returns the elements in increasing order.
func (s *set) elements() []int {
	var l []int
	for i, word := range s {
		for ; word != 0; word &= word - 1 {
			l = append(l, i*64+bits.TrailingZeros64(word))
		}
	}
	return l
}

// common returns the number of the elements of both sets.
func common(s, t *set) int {
	n := 0
	for i := range s {
		n += bits.OnesCount64(s[i] & t[i])
	}
	return n
}

// either returns the set of the elements of exactly one of two sets.
func either(s, t set) set {
	for i := range s {
		s[i] ^= t[i]
	}
	return s
}

// both returns the set of the elements of both sets.
func both(s, t set) set {
	for i := range s {
		s[i] &= t[i]
	}
	return s
}

// outputs returns the sets of the outputs of a schedule.
func outputs(s api.Schedule) []set {
	registers := make([]set, inputs(s), inputs(s)+len(s.Ops))
	for x := range registers {
		registers[x].add(x)
	}
	for _, op := range s.Ops {
		registers = append(registers, either(registers[op.A], registers[op.B]))
	}
	sets := make([]set, len(s.Out))
	for i, out := range s.Out {
		if out != noRegister {
			sets[i] = registers[out]
		}
	}
	return sets
}
