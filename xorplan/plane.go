package xorplan

import "solvent/api"

// partSize is the number of symbols whose bits, a part of a plane, are processed at a time.
const partSize = 64

// load appends the inputs to the registers, with the bits of the symbols from the index first on.
func load(registers []uint64, m int, data []string, first int) []uint64 {
	for _, unit := range data {
		for k := range m {
			var plane uint64
			for i := range symbols(m, len(unit), first) {
				plane |= uint64(unit[byteOf(m, first+i, k)]>>(k%8)&1) << i
			}
			registers = append(registers, plane)
		}
	}
	return registers
}

// store sets the bits of the symbols from the index first on of the parity units, which are 0, to the outputs.
func store(s api.Schedule, registers []uint64, units [][]byte, first int) {
	for i, unit := range units {
		for k := range s.Field {
			out := s.Out[i*s.Field+k]
			if out == noRegister {
				continue
			}
			for j := range symbols(s.Field, len(unit), first) {
				unit[byteOf(s.Field, first+j, k)] |= byte(registers[out]>>j&1) << (k % 8)
			}
		}
	}
}

// symbols returns the number of symbols of a part of a unit with this length, from the index first on.
func symbols(m, length, first int) int { return min(partSize, length/(m/8)-first) }

// byteOf returns the index of the byte of a unit that contains the bit with the weight 2^k of a symbol; in that byte, the weight
// is 2^(k%8).
func byteOf(m, symbol, k int) int { return (symbol+1)*(m/8) - 1 - k/8 }
