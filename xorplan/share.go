package xorplan

import (
	"slices"

	"solvent/api"
)

// pair is a pair of registers, the one with the smaller number first.
type pair [2]int

// sharer finds the common pairs of the sets of a schedule's outputs, and replaces them by registers.
type sharer struct {
	schedule api.Schedule
	within   []set        // for each register, the outputs whose sets contain it
	shared   []int        // the registers that are in several sets, and so may be in a pair that is
	counts   map[pair]int // for each pair that is in several sets, their number
}

// sharing returns a schedule that computes the outputs of s from common pairs.
func sharing(s api.Schedule) api.Schedule {
	h := newSharer(s)
	for p, n := h.best(); n > 0; p, n = h.best() {
		h.replace(p)
	}
	for i := range s.Out {
		addOutput(&h.schedule, h.registers(i))
	}
	return h.schedule
}

// newSharer returns a sharer for the sets of the inputs of a schedule.
func newSharer(s api.Schedule) *sharer {
	h := &sharer{
		schedule: api.Schedule{Field: s.Field, Data: s.Data, Parity: s.Parity},
		within:   make([]set, inputs(s)),
		counts:   map[pair]int{},
	}
	for i, output := range outputs(s) {
		for _, x := range output.elements() {
			h.within[x].add(i)
		}
	}
	for x := range h.within {
		h.count(x)
		h.shared = append(h.shared, x)
	}
	return h
}

// count counts the sets that contain a register and another one, for each other register.
func (h *sharer) count(x int) {
	for _, y := range h.shared {
		if y == x {
			continue
		}
		p := pair{min(x, y), max(x, y)}
		if n := common(&h.within[x], &h.within[y]); n > 1 {
			h.counts[p] = n
		} else {
			delete(h.counts, p)
		}
	}
}

// best returns the pair that is in the most sets, the first one of several, and the number of these sets; 0 if no pair is in
// several sets.
func (h *sharer) best() (pair, int) {
	var best pair
	most := 0
	for p, n := range h.counts {
		if n > most || n == most && slices.Compare(p[:], best[:]) < 0 {
			best, most = p, n
		}
	}
	return best, most
}

// replace replaces a pair by its sum, in every set that contains both.
func (h *sharer) replace(p pair) {
	a, b := p[0], p[1]
	sum := addOp(&h.schedule, a, b)
	sets := both(h.within[a], h.within[b])
	h.within[a] = either(h.within[a], sets)
	h.within[b] = either(h.within[b], sets)
	h.within = append(h.within, sets)
	for _, x := range []int{a, b, sum} {
		h.count(x)
	}
	h.shared = append(h.shared, sum)
	h.shared = slices.DeleteFunc(h.shared, func(x int) bool { return common(&h.within[x], &h.within[x]) < 2 })
}

// registers returns the set of an output.
func (h *sharer) registers(output int) []int {
	var l []int
	for x := range h.within {
		if h.within[x].contains(output) {
			l = append(l, x)
		}
	}
	return l
}
