package distance_test

import (
	"math"
	"math/rand"
	"slices"
	"testing"

	"solvent/api"
	"solvent/codelang"
	"solvent/distance"
	"solvent/erasure"
)

// code returns a code with two data units.
func code(rows ...[]int) api.Code { return named(api.Code{Field: 8, Data: 2, Parity: rows}) }

// checkLeft checks Left and Fatal.
func checkLeft(t *testing.T, c api.Code, have []bool, left int, fatal []int) {
	t.Helper()
	if got := distance.Left(c, have); got != left {
		t.Fatalf("P9.2: Left(%v, %v) = %d, want %d", c, have, got, left)
	}
	if got := distance.Fatal(c, have); !slices.Equal(got, fatal) {
		t.Fatalf("P9.3: Fatal(%v, %v) = %v, want %v", c, have, got, fatal)
	}
}

// checkLosses checks Losses.
func checkLosses(t *testing.T, c api.Code, want int) {
	t.Helper()
	if got := distance.Losses(c); got != want {
		t.Fatalf("P9.1: Losses(%v) = %d, want %d", c, got, want)
	}
}

// checkRacks checks Racks.
func checkRacks(t *testing.T, c api.Code, racks []int, want int) {
	t.Helper()
	if got := distance.Racks(c, racks); got != want {
		t.Fatalf("P9.4: Racks(%v, %v) = %d, want %d", c, racks, got, want)
	}
}

func TestExamples(t *testing.T) {
	rs, par := code([]int{1, 1}, []int{1, 2}), code([]int{1, 1})
	checkLosses(t, rs, 2)
	checkLosses(t, par, 1)
	checkLeft(t, rs, []bool{false, true, true, true}, 1, []int{1, 2})
	checkLeft(t, par, []bool{false, false, true}, -1, nil)
	checkRacks(t, rs, []int{0, 0, 1, 1}, 1)
	checkRacks(t, rs, []int{0, 0, 0, 1}, 0)
}

// invalid returns codes that are not valid, each for one reason; some of them are valid for package erasure.
func invalid() []api.Code {
	l := []api.Code{{}, {Name: "c", Domain: 1}, {Name: "c", Field: 8, Data: 2, Domain: 1}}
	for _, name := range []string{"", "C", "1", "a b", "abcdefghijklm", "\x00", "a\xff"} {
		c := code([]int{1, 1}, []int{1, 2})
		c.Name = name
		l = append(l, c)
	}
	for _, domain := range []int{0, -1, 5, 33, math.MaxInt, math.MinInt} {
		c := code([]int{1, 1}, []int{1, 2})
		c.Domain = domain
		l = append(l, c)
	}
	for _, m := range []int{0, 1, 4, 7, 9, 32, -8, math.MaxInt, math.MinInt} {
		c := code([]int{1, 1}, []int{1, 2})
		c.Field = m
		l = append(l, c)
	}
	for _, data := range []int{0, 1, 3, -1, 30, 31, 32, math.MaxInt, math.MinInt} {
		c := code([]int{1, 1}, []int{1, 2})
		c.Data = data
		l = append(l, c)
	}
	for _, row := range [][]int{nil, {}, {1}, {1, 1, 1}, {0, 0}, {1, 256}, {-1, 1}, {math.MinInt, 0}, {1, math.MaxInt}} {
		l = append(l, code(row), code([]int{1, 1}, row), code(row, []int{1, 2}))
	}
	wide := slices.Repeat([][]int{{1, 1}}, 31)
	large := code([]int{1, 1}, []int{1, 65536})
	large.Field = 16
	return append(l, code(wide...), code(slices.Repeat(wide, 100)...), large)
}

func TestInvalidCodes(t *testing.T) {
	for i, c := range invalid() {
		if codelang.Check(c) == api.OK {
			t.Fatalf("code %d of the test is valid: %v", i, c)
		}
		checkLosses(t, c, -1)
		for _, n := range []int{0, 1, 2, 3, 4, 5, 32, 33} {
			for _, present := range []bool{false, true} {
				checkLeft(t, c, slices.Repeat([]bool{present}, n), -1, nil)
			}
			checkRacks(t, c, make([]int, n), -1)
			checkRacks(t, c, randomRacks(rand.New(rand.NewSource(1)), n, n+1), -1)
		}
	}
}

func TestWrongLists(t *testing.T) {
	for _, m := range sizes {
		for _, c := range []api.Code{cauchy(m, 1, 1), cauchy(m, 2, 2), cauchy(m, 1, 31), cauchy(m, 31, 1), cauchy(m, 6, 3)} {
			for _, n := range []int{0, 1, c.Data, width(c) - 1, width(c) + 1, 32, 33, 64, 1 << 16} {
				if n == width(c) {
					continue
				}
				checkLeft(t, c, make([]bool, n), -1, nil)
				checkLeft(t, c, slices.Repeat([]bool{true}, n), -1, nil)
				checkRacks(t, c, make([]int, n), -1)
				racks := make([]int, n)
				for i := range racks {
					racks[i] = i
				}
				checkRacks(t, c, racks, -1)
			}
		}
	}
}

// smallCodes visits codes with elements of a subfield, and these elements.
func smallCodes(r *rand.Rand, visit func(c api.Code, elements []int)) {
	for _, m := range sizes {
		for _, x := range []struct{ q, data, parity, times int }{
			{2, 1, 7, 10}, {2, 2, 6, 20}, {2, 3, 5, 40}, {2, 4, 4, 40}, {2, 5, 3, 20}, {2, 3, 7, 20}, {2, 7, 1, 5},
			{4, 2, 4, 40}, {4, 3, 4, 40}, {4, 4, 4, 10}, {16, 2, 4, 20}, {16, 1, 5, 5},
		} {
			elements := subfield(m, x.q)
			for range x.times {
				visit(randomCode(r, m, x.data, 1+r.Intn(x.parity), elements), elements)
			}
		}
	}
}

// TestSmallCodes tests all sets of present units.
func TestSmallCodes(t *testing.T) {
	smallCodes(rand.New(rand.NewSource(2)), func(c api.Code, elements []int) {
		l := supports(c, elements)
		all := 1<<width(c) - 1
		for present := range all + 1 {
			left, fatal := judged(l, present)
			checkLeft(t, c, flags(width(c), present), left, fatal)
			if present == all {
				checkLosses(t, c, left)
			}
		}
	})
}

func TestSmallRacks(t *testing.T) {
	r := rand.New(rand.NewSource(3))
	smallCodes(r, func(c api.Code, elements []int) {
		l := supports(c, elements)
		for limit := 1; limit <= width(c)+2; limit++ {
			racks := randomRacks(r, width(c), limit)
			checkRacks(t, c, racks, racksJudged(l, racks))
		}
	})
}

// TestWideCodes tests codes with zeros and ones of up to 32 units.
func TestWideCodes(t *testing.T) {
	r := rand.New(rand.NewSource(4))
	for _, m := range sizes {
		for range 12 {
			data := 1 + r.Intn(10)
			c := randomCode(r, m, data, 1+r.Intn(api.MaxWidth-data), []int{0, 1})
			l := supports(c, []int{0, 1})
			left, _ := judged(l, 1<<width(c)-1)
			checkLosses(t, c, left)
			for range 4 {
				present := r.Int() | r.Int() | r.Int() | r.Int()
				left, fatal := judged(l, present&(1<<width(c)-1))
				checkLeft(t, c, flags(width(c), present), left, fatal)
			}
			racks := randomRacks(r, width(c), 1+r.Intn(12))
			checkRacks(t, c, racks, racksJudged(l, racks))
		}
	}
}

// TestManyDataUnits tests codes of any width with any elements.
func TestManyDataUnits(t *testing.T) {
	r := rand.New(rand.NewSource(5))
	for _, m := range sizes {
		for range 40 {
			data := 1 + r.Intn(31)
			parity := 1 + r.Intn(min(api.MaxWidth-data, 6))
			elements := []int{0, 1, 2, 3, 1<<m - 1, 1 + r.Intn(1<<m-1)}[:2+r.Intn(5)]
			c := randomCode(r, m, data, parity, elements)
			for range 3 {
				present := r.Int()
				if n := r.Intn(parity + 2); n < parity { // only a few units are missing
					present = -1
					for range n {
						present &^= 1 << r.Intn(width(c))
					}
				}
				left, fatal := judgedByRank(c, present&(1<<width(c)-1))
				checkLeft(t, c, flags(width(c), present), left, fatal)
			}
		}
	}
}

// sumOfLargest returns the sum of the n largest numbers, or of all.
func sumOfLargest(l []int, n int) int {
	l = slices.Clone(l)
	slices.Sort(l)
	slices.Reverse(l)
	sum := 0
	for _, x := range l[:min(n, len(l))] {
		sum += x
	}
	return sum
}

// TestCauchy tests codes of which any Data units are sufficient, and no fewer.
func TestCauchy(t *testing.T) {
	r := rand.New(rand.NewSource(6))
	for _, m := range sizes {
		for _, x := range [][2]int{{1, 1}, {31, 1}, {30, 2}, {29, 3}, {28, 4}, {16, 16}, {4, 28}, {1, 31}, {10, 4}, {8, 3}, {6, 9}, {5, 5}} {
			data, parity := x[0], x[1]
			c := cauchy(m, data, parity)
			checkLosses(t, c, min(parity, api.MaxLoss))
			order := r.Perm(width(c))
			for gone := max(1, parity-4); gone <= parity+2 && gone <= width(c); gone++ {
				present := 1<<width(c) - 1
				for _, unit := range order[:gone] {
					present &^= 1 << unit
				}
				left, fatal := max(parity-gone, -1), []int(nil)
				if left < api.MaxLoss {
					fatal = unitsOf(present)[:left+1]
				}
				checkLeft(t, c, flags(width(c), present), left, fatal)
			}
			for _, limit := range []int{1, 2, 3, 8, 16} {
				racks := randomRacks(r, width(c), limit)
				number := map[int]int{}
				for _, rack := range racks {
					number[rack]++
				}
				var parts []int
				for _, n := range number {
					parts = append(parts, n)
				}
				want := 0
				for want < api.MaxLoss && sumOfLargest(parts, want+1) <= parity {
					want++
				}
				checkRacks(t, c, racks, want)
			}
		}
	}
}

// TestKnownDistances tests binary codes, which keep their distances over every field with 2^m elements.
func TestKnownDistances(t *testing.T) {
	var hamming, extended, odd []int
	for x := 1; x < 32; x++ {
		weight := 0
		for i := range 5 {
			weight += x >> i & 1
		}
		if weight >= 2 {
			hamming = append(hamming, x)
			extended = append(extended, x|(weight+1)%2<<5)
		}
		if weight%2 == 1 {
			odd = append(odd, x)
		}
	}
	for _, m := range sizes {
		for _, x := range []struct {
			name string
			c    api.Code
			want int
		}{
			{"parity", systematic(m, 1, slices.Repeat([]int{1}, 31)), 1},
			{"repetition of 5", systematic(m, 4, []int{15}), 4},
			{"repetition of 32", systematic(m, 31, []int{1<<31 - 1}), 4},
			{"Hamming of 31", systematic(m, 5, hamming), 2},
			{"extended Hamming of 32", systematic(m, 6, extended), 3},
			{"all words of odd weight", systematic(m, 5, odd), 1},
			{"cyclic Hamming of 15", systematic(m, 4, cyclic(0b10011, 11)), 2},
			{"Bose and others, of 15, for 2 errors", systematic(m, 8, cyclic(0b111010001, 7)), 4},
			{"Golay of 23", systematic(m, 11, cyclic(0b101011100011, 12)), 4},
			{"Bose and others, of 31, for 2 errors", systematic(m, 10, cyclic(0b11101101001, 21)), 4},
			{"product of two parities of 4", systematic(m, 7, []int{0b1001001, 0b1001010, 0b1001100, 0b1010001, 0b1010010, 0b1010100, 0b1100001, 0b1100010, 0b1100100}), 3},
		} {
			if got := distance.Losses(x.c); got != x.want {
				t.Errorf("P9.1: %s: Losses = %d, want %d", x.name, got, x.want)
			}
			present := slices.Repeat([]bool{true}, width(x.c))
			if got := distance.Fatal(x.c, present); x.want == api.MaxLoss && len(got) != 0 || x.want < api.MaxLoss && len(got) != x.want+1 {
				t.Errorf("P9.3: %s: Fatal = %v", x.name, got)
			}
		}
	}
}

// TestUnprotected tests codes with data units on which no parity unit depends.
func TestUnprotected(t *testing.T) {
	for _, m := range sizes {
		c := named(api.Code{Field: m, Data: 4, Parity: [][]int{{1, 0, 1, 0}, {1, 0, 2, 0}, {3, 0, 1, 0}}})
		checkLosses(t, c, 0)
		checkLeft(t, c, flags(7, 0b1111111), 0, []int{1})
		checkLeft(t, c, flags(7, 0b1101110), 0, []int{1})
		checkLeft(t, c, flags(7, 0b1111101), -1, nil)
		checkLeft(t, c, flags(7, 0b1110111), -1, nil)
		checkLeft(t, c, flags(7, 0b1101010), 0, []int{1})
		checkLeft(t, c, flags(7, 0b0001111), 0, []int{0})
		checkLeft(t, c, flags(7, 0b0101010), -1, nil)
		checkRacks(t, c, []int{0, 1, 2, 3, 4, 5, 6}, 0)
		checkRacks(t, c, []int{0, 0, 0, 0, 1, 1, 1}, 0)
	}
}

// TestOneUnit tests the code with the fewest units, for every list of present units.
func TestOneUnit(t *testing.T) {
	for _, m := range sizes {
		c := named(api.Code{Field: m, Data: 1, Parity: [][]int{{1<<m - 1}}})
		checkLosses(t, c, 1)
		checkLeft(t, c, []bool{true, true}, 1, []int{0, 1})
		checkLeft(t, c, []bool{true, false}, 0, []int{0})
		checkLeft(t, c, []bool{false, true}, 0, []int{1})
		checkLeft(t, c, []bool{false, false}, -1, nil)
		checkRacks(t, c, []int{1, 0}, 1)
		checkRacks(t, c, []int{-5, -5}, 0)
	}
}

// TestSufficient tests results against the definition of a sufficient set, erasure.Decodable.
func TestSufficient(t *testing.T) {
	r := rand.New(rand.NewSource(7))
	smallCodes(r, func(c api.Code, _ []int) {
		have := flags(width(c), r.Int()|r.Int())
		left, fatal := distance.Left(c, have), distance.Fatal(c, have)
		if erasure.Decodable(c, have) != (left >= 0) {
			t.Fatalf("P9.2: Left(%v, %v) = %d", c, have, left)
		}
		if left == -1 || left == api.MaxLoss {
			return
		}
		for _, unit := range fatal {
			if !have[unit] {
				t.Fatalf("P9.3: Fatal(%v, %v) = %v", c, have, fatal)
			}
			have[unit] = false
		}
		if erasure.Decodable(c, have) {
			t.Fatalf("P9.3: the units are sufficient without %v of %v, and only %v are present", fatal, c, have)
		}
		have[fatal[0]] = true
		if !erasure.Decodable(c, have) {
			t.Fatalf("P9.3: the units are not sufficient with one of %v of %v, and %v are present", fatal, c, have)
		}
	})
}

// TestOneMoreMissing tests the theorem P9.6.
func TestOneMoreMissing(t *testing.T) {
	r := rand.New(rand.NewSource(8))
	smallCodes(r, func(c api.Code, _ []int) {
		have := slices.Repeat([]bool{true}, width(c))
		left := distance.Left(c, have)
		checkLosses(t, c, left)
		for _, unit := range r.Perm(width(c)) {
			have[unit] = false
			now := distance.Left(c, have)
			if now > left || now < left-1 || now < -1 {
				t.Fatalf("P9.6: Left(%v, %v) = %d, but %d before unit %d was missing", c, have, now, left, unit)
			}
			left = now
		}
		if left != -1 {
			t.Fatalf("P9.2: Left(%v) = %d without units", c, left)
		}
	})
}

// TestBounds tests the theorem P9.7.
func TestBounds(t *testing.T) {
	r := rand.New(rand.NewSource(9))
	smallCodes(r, func(c api.Code, _ []int) {
		losses := distance.Losses(c)
		if losses > len(c.Parity) {
			t.Fatalf("P9.7: Losses(%v) = %d", c, losses)
		}
		checkRacks(t, c, r.Perm(width(c)), losses)
		checkRacks(t, c, slices.Repeat([]int{r.Int()}, width(c)), 0)
	})
}

// TestNameAndDomain tests that results depend on neither the name nor the domain of a valid code.
func TestNameAndDomain(t *testing.T) {
	c := code([]int{1, 1}, []int{1, 2})
	for domain := 1; domain <= 4; domain++ {
		for _, name := range []string{"a", "z9", "abcdefghijkl"} {
			c.Name, c.Domain = name, domain
			checkLosses(t, c, 2)
			checkLeft(t, c, flags(4, 0b1011), 1, []int{0, 1})
			checkRacks(t, c, []int{0, 0, 1, 1}, 1)
		}
	}
}

// TestMemory tests that calls do not change their arguments, and that their results are new.
func TestMemory(t *testing.T) {
	smallCodes(rand.New(rand.NewSource(10)), func(c api.Code, _ []int) {
		have, racks := slices.Repeat([]bool{true}, width(c)), make([]int, width(c))
		for i := range racks {
			racks[i] = len(racks) - i
		}
		parity, order := slices.Concat(c.Parity...), slices.Clone(racks)
		left, fatal := distance.Left(c, have), distance.Fatal(c, have)
		want := slices.Clone(fatal)
		for range 2 {
			checkLeft(t, c, have, left, want)
			clear(fatal[:cap(fatal)])
			fatal = distance.Fatal(c, have)
			checkRacks(t, c, racks, left)
			checkLosses(t, c, left)
		}
		if !slices.Equal(slices.Concat(c.Parity...), parity) || slices.Contains(have, false) || !slices.Equal(racks, order) {
			t.Fatalf("P9.5: a call changed an argument: %v %v %v", c, have, racks)
		}
	})
}

// FuzzDistance tests codes with elements of a small subfield against the list of their stripes.
func FuzzDistance(f *testing.F) {
	f.Add(false, uint8(1), []byte{1, 1, 1, 2}, uint64(0b1111), []byte{0, 0, 1, 1})
	f.Add(true, uint8(2), []byte{1, 2, 3, 1, 1, 1, 0, 0, 1}, uint64(0b101111), []byte{0, 1, 2, 3, 4, 5})
	f.Add(false, uint8(0), []byte{1, 1, 1, 1, 1, 1, 1}, uint64(0xff), []byte{9})
	f.Fuzz(func(t *testing.T, large bool, data uint8, cells []byte, present uint64, list []byte) {
		c := api.Code{Name: "c", Field: 8, Data: 1 + int(data%5), Domain: 1}
		if large {
			c.Field = 16
		}
		elements := subfield(c.Field, 4)
		for ; len(cells) >= c.Data && len(c.Parity) < 12; cells = cells[c.Data:] {
			row := make([]int, c.Data)
			for j := range row {
				row[j] = elements[cells[j]%4]
			}
			if slices.Max(row) > 0 {
				c.Parity = append(c.Parity, row)
			}
		}
		if len(c.Parity) == 0 {
			checkLosses(t, c, -1)
			return
		}
		l, all := supports(c, elements), 1<<width(c)-1
		left, _ := judged(l, all)
		checkLosses(t, c, left)
		left, fatal := judged(l, int(present)&all)
		checkLeft(t, c, flags(width(c), int(present)), left, fatal)
		racks := make([]int, width(c))
		for i := range min(len(list), len(racks)) {
			racks[i] = int(list[i])
		}
		checkRacks(t, c, racks, racksJudged(l, racks))
	})
}

// FuzzArguments tests that no argument leads to a panic, and that only wrong ones are refused.
func FuzzArguments(f *testing.F) {
	f.Add("c", 8, 3, 2, 3, 1, 1, uint64(0b11111), 5)
	f.Add("No", 16, 1, 33, 1, 65535, 2, uint64(1), 1)
	f.Add("c", 8, -1, 1, 0, 0, 0, uint64(0), 0)
	f.Fuzz(func(t *testing.T, name string, m, data, parity, length, cell, domain int, set uint64, n int) {
		c := api.Code{Name: name, Field: m, Data: data, Domain: domain}
		for i := range uint(parity) % 40 {
			row := make([]int, uint(length)%40)
			for j := range row {
				row[j] = cell >> ((int(i) + j) % 8)
			}
			c.Parity = append(c.Parity, row)
		}
		have, racks := flags(int(uint(n)%64), int(set)), make([]int, uint(n)%64)
		for i := range racks {
			racks[i] = int(set >> i % 16)
		}
		valid := codelang.Check(c) == api.OK
		if got := distance.Losses(c); (got >= 0) != valid || got > api.MaxLoss || got < -1 {
			t.Fatalf("P9.1: Losses(%v) = %d", c, got)
		}
		valid = valid && len(have) == width(c)
		left := distance.Left(c, have)
		if (left >= 0) != (valid && erasure.Decodable(c, have)) || left > api.MaxLoss || left < -1 {
			t.Fatalf("P9.2: Left(%v, %v) = %d", c, have, left)
		}
		if got := distance.Fatal(c, have); len(got) != (left+1)%(api.MaxLoss+1) {
			t.Fatalf("P9.3: Fatal(%v, %v) = %v, and Left = %d", c, have, got, left)
		}
		if got := distance.Racks(c, racks); (got >= 0) != valid || got > api.MaxLoss || got < -1 {
			t.Fatalf("P9.4: Racks(%v, %v) = %d", c, racks, got)
		}
	})
}
