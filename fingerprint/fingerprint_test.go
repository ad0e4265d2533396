package fingerprint_test

import (
	"cmp"
	"hash/crc32"
	"math"
	"math/bits"
	"math/rand"
	"slices"
	"strings"
	"testing"

	"solvent/api"
	"solvent/fingerprint"
)

// The references below follow the chapter with the standard library's checksum and with the polynomial of layer 3 as a
// number, instead of the list of its exponents.

// polynomial is that of CRC-32C, as layer 3 writes it: the highest bit is x^0, the lowest x^31, and x^32 is left out.
const polynomial = 0x82F63B78

// of returns the fingerprint of P4.1.
func of(unit string) uint32 {
	return crc32.Checksum([]byte(unit), crc32.MakeTable(crc32.Castagnoli))
}

// space returns the number of twins of P4.2: the polynomial has 33 coefficients, hence 8n-32 places in the bits of n bytes.
func space(n int) int {
	if n < 5 || n > 2000 {
		return 0
	}
	return 8*n - 33 + 1
}

// twin returns the twin of P4.3: bit k is x^32, bit k+1 is x^31, and so on.
func twin(unit string, k int) string {
	difference := uint64(1|polynomial<<1) << (k % 8)
	b := []byte(unit)
	for i := k / 8; difference != 0; i++ {
		b[i] ^= byte(difference)
		difference >>= 8
	}
	return string(b)
}

func random(r *rand.Rand, n int) string {
	b := make([]byte, n)
	r.Read(b)
	return string(b)
}

// units returns strings with twins, of special contents and random ones.
func units(r *rand.Rand) []string {
	l := []string{"a unit of thirty-two bytes, thus", "fünf Ähren", "\xff\xfe\xfd\xfc\xfb\xfa"}
	for n := 5; n <= 40; n++ {
		l = append(l, random(r, n), strings.Repeat("\x00", n), strings.Repeat("\xff", n))
	}
	return append(l, random(r, 64), random(r, 255), random(r, 256))
}

// long returns the longest strings with twins.
func long(r *rand.Rand) []string { return []string{random(r, 1999), random(r, 2000)} }

func TestExamples(t *testing.T) {
	if got := fingerprint.Of("123456789"); got != 3808858755 {
		t.Errorf("P4.1: %d", got)
	}
	for n, want := range map[int]int{4: 0, 5: 8, 32: 224} {
		if got := fingerprint.Space(n); got != want {
			t.Errorf("P4.2: Space(%d) = %d, want %d", n, got, want)
		}
	}
	five := strings.Repeat("\x00", 5)
	if got, e := fingerprint.Twin(five, 0); got != string([]byte{241, 118, 236, 5, 1}) || e != api.OK {
		t.Errorf("P4.3: the twin of five zero bytes is %v, %d", []byte(got), e)
	}
	if got, e := fingerprint.Twin(five[:4], 0); got != "" || e != api.ErrArg {
		t.Errorf("P4.3: the twin of four zero bytes is %v, %d", []byte(got), e)
	}
}

func TestOf(t *testing.T) {
	r := rand.New(rand.NewSource(1))
	check := func(unit string) {
		t.Helper()
		if got, want := fingerprint.Of(unit), of(unit); got != want {
			t.Fatalf("P4.1: Of(%x) = %#x, want %#x", unit, got, want)
		}
	}
	for i := range 1 << 16 {
		check(string([]byte{byte(i), byte(i >> 8)}))
	}
	for n := range 300 {
		check(random(r, n))
		check(strings.Repeat("\x00", n))
		check(strings.Repeat("\xff", n))
	}
	for _, n := range []int{1999, 2000, 2001, 4096, 70000, 1 << 20} {
		check(random(r, n))
	}
}

func TestSpace(t *testing.T) {
	for n := -100; n < 5000; n++ {
		if got, want := fingerprint.Space(n), space(n); got != want {
			t.Errorf("P4.2: Space(%d) = %d, want %d", n, got, want)
		}
	}
	for i := range 64 {
		for _, n := range []int{math.MinInt >> i, math.MaxInt >> i, 1 << i, 1<<i + 5, -1<<i + 5} {
			if got, want := fingerprint.Space(n), space(n); got != want {
				t.Errorf("P4.2: Space(%d) = %d, want %d", n, got, want)
			}
		}
	}
}

func TestTwin(t *testing.T) {
	r := rand.New(rand.NewSource(2))
	for _, unit := range slices.Concat(units(r), long(r)) {
		for k := range space(len(unit)) {
			if got, e := fingerprint.Twin(unit, k); got != twin(unit, k) || e != api.OK {
				t.Fatalf("P4.3: Twin(%x, %d) = %x, %d, want %x", unit, k, got, e, twin(unit, k))
			}
		}
	}
}

func TestNoTwin(t *testing.T) {
	r := rand.New(rand.NewSource(3))
	check := func(unit string, k int) {
		t.Helper()
		if got, e := fingerprint.Twin(unit, k); got != "" || e != api.ErrArg {
			t.Errorf("P4.3: Twin of %d bytes, %d = %x, %d", len(unit), k, got, e)
		}
	}
	for n := range 2100 {
		unit := random(r, n)
		for _, k := range []int{-1, -2, -8, -8 * n, math.MinInt, math.MinInt + 1, math.MaxInt, math.MaxInt - 32} {
			check(unit, k)
		}
		for i := range 40 {
			check(unit, space(n)+i)
		}
		check(unit, 8*n)
	}
	for _, n := range []int{0, 1, 2, 3, 4, 2001, 2002, 4000, 70000} {
		unit := random(r, n)
		for k := -40; k < 8*min(n, 100); k++ {
			check(unit, k)
		}
		check(unit, 8*n-33)
		check(unit, 8*n-32)
	}
}

func TestTwins(t *testing.T) {
	r := rand.New(rand.NewSource(4))
	for _, unit := range slices.Concat(units(r), long(r)) {
		twins := fingerprint.Twins(unit)
		for round := range 2 {
			k := 0
			for got := range twins {
				if want, e := fingerprint.Twin(unit, k); e != api.OK || got != want || got != twin(unit, k) {
					t.Fatalf("P4.4: round %d: twin %d of %x is %x, want %x", round, k, unit, got, want)
				}
				k++
			}
			if k != space(len(unit)) {
				t.Fatalf("P4.4: round %d: %d twins of %d bytes", round, k, len(unit))
			}
		}
	}
}

func TestNoTwins(t *testing.T) {
	r := rand.New(rand.NewSource(5))
	for _, n := range []int{0, 1, 2, 3, 4, 2001, 2002, 4000, 70000} {
		for got := range fingerprint.Twins(random(r, n)) {
			t.Fatalf("P4.4: %d bytes have the twin %x", n, got)
		}
	}
}

// TestLeave checks that twins are not produced after the loop has been left, and that the iterator begins anew.
func TestLeave(t *testing.T) {
	unit := "units"
	twins := fingerprint.Twins(unit)
	for taken := 1; taken <= space(len(unit)); taken++ {
		var l []string
		twins(func(s string) bool {
			l = append(l, s)
			return len(l) < taken
		})
		if len(l) != taken {
			t.Fatalf("P4.4: left after %d twins, but %d came", taken, len(l))
		}
		for k, got := range l {
			if got != twin(unit, k) {
				t.Errorf("P4.4: left after %d twins: twin %d is %x, want %x", taken, k, got, twin(unit, k))
			}
		}
	}
}

// TestNested checks that the loops over one iterator are independent of each other.
func TestNested(t *testing.T) {
	unit := "a nested unit"
	twins := fingerprint.Twins(unit)
	i := 0
	for outer := range twins {
		j := 0
		for inner := range twins {
			if outer != twin(unit, i) || inner != twin(unit, j) {
				t.Fatalf("P4.4: twins %d and %d are %x and %x", i, j, outer, inner)
			}
			j++
		}
		if j != space(len(unit)) {
			t.Fatalf("P4.4: an inner loop over %d twins", j)
		}
		i++
	}
	if i != space(len(unit)) {
		t.Fatalf("P4.4: an outer loop over %d twins", i)
	}
}

func TestConsequences(t *testing.T) {
	r := rand.New(rand.NewSource(6))
	for _, unit := range slices.Concat(units(r), long(r)) {
		seen := map[string]bool{unit: true}
		value := fingerprint.Of(unit)
		for k := range fingerprint.Space(len(unit)) {
			got, e := fingerprint.Twin(unit, k)
			if e != api.OK || len(got) != len(unit) || fingerprint.Of(got) != value || of(got) != value {
				t.Fatalf("P4.5: the twin %d of %x is %x, %d, with another length or fingerprint", k, unit, got, e)
			}
			if seen[got] {
				t.Fatalf("P4.5: the twin %d of %x is the unit or an earlier twin", k, unit)
			}
			seen[got] = true
			if back, e := fingerprint.Twin(got, k); back != unit || e != api.OK {
				t.Fatalf("P4.5: the twin %d of the twin %d of %x is %x, %d", k, k, unit, back, e)
			}
		}
	}
}

// rank returns how many of the values are not the XOR of some values before them.
func rank(l []uint32) int {
	var basis []uint32 // values with different highest bits, the greatest one first
	for _, x := range l {
		for _, y := range basis {
			if bits.Len32(x) == bits.Len32(y) {
				x ^= y
			}
		}
		if x != 0 {
			basis = append(basis, x)
			slices.SortFunc(basis, func(a, b uint32) int { return cmp.Compare(b, a) })
		}
	}
	return len(basis)
}

// TestClose checks P4.6: the changes of the fingerprint by the single bits of 4 consecutive bytes never cancel each other
// out. They add up by XOR, because the checksum is linear but for its inversions: TestCloseStrings relies on nothing.
func TestClose(t *testing.T) {
	r := rand.New(rand.NewSource(7))
	for _, n := range []int{1, 2, 3, 4, 5, 8, 31, 32, 33, 64, 65, 500, 2000, 20000} {
		unit := []byte(random(r, n))
		value := fingerprint.Of(string(unit))
		width := min(n, 4)
		for at := 0; at <= n-width; at += 1 + n/100 {
			var changes []uint32
			for i := range 8 * width {
				unit[at+i/8] ^= 1 << (i % 8)
				changes = append(changes, value^fingerprint.Of(string(unit)))
				unit[at+i/8] ^= 1 << (i % 8)
			}
			if rank(changes) != 8*width {
				t.Fatalf("P4.6: two strings that differ in the %d bytes from %d of %d have the same fingerprint", width, at, n)
			}
		}
	}
}

func TestCloseStrings(t *testing.T) {
	r := rand.New(rand.NewSource(8))
	for range 20000 {
		unit := random(r, 1+r.Intn(100))
		at := r.Intn(len(unit))
		n := min(1+r.Intn(4), len(unit)-at)
		other := unit[:at] + random(r, n) + unit[at+n:]
		if (fingerprint.Of(unit) == fingerprint.Of(other)) != (unit == other) {
			t.Fatalf("P4.6: %x and %x have the same fingerprint", unit, other)
		}
	}
}

// TestFarther checks that P4.6 says no more than what holds: 5 bytes are enough for a twin.
func TestFarther(t *testing.T) {
	unit := random(rand.New(rand.NewSource(9)), 32)
	for at := range len(unit) - 4 {
		got, e := fingerprint.Twin(unit, 8*at)
		if e != api.OK || got[:at] != unit[:at] || got[at+5:] != unit[at+5:] || got[at] == unit[at] || got[at+4] == unit[at+4] {
			t.Errorf("P4.3: the twin %d of %x is %x, %d", 8*at, unit, got, e)
		}
	}
}

// P1 of the document: no call panics, whatever it is given.
func FuzzTwins(f *testing.F) {
	f.Add("123456789", 0, uint16(1))
	f.Add("four", 0, uint16(0))
	f.Add("units", 7, uint16(100))
	f.Add("units", 8, uint16(7))
	f.Add(strings.Repeat("\xff", 2000), 8*2000-33, uint16(3))
	f.Add(strings.Repeat("\x00", 2001), math.MaxInt, uint16(math.MaxUint16))
	f.Add("", math.MinInt, uint16(0))
	f.Fuzz(func(t *testing.T, unit string, k int, last uint16) {
		if got, want := fingerprint.Of(unit), of(unit); got != want {
			t.Errorf("P4.1: Of(%x) = %#x, want %#x", unit, got, want)
		}
		want, wantE := "", api.ErrArg
		if k >= 0 && k < space(len(unit)) {
			want, wantE = twin(unit, k), api.OK
		}
		if got, e := fingerprint.Twin(unit, k); got != want || e != wantE {
			t.Errorf("P4.3: Twin(%x, %d) = %x, %d, want %x, %d", unit, k, got, e, want, wantE)
		}
		i := 0
		for got := range fingerprint.Twins(unit) {
			if got != twin(unit, i) {
				t.Fatalf("P4.4: twin %d of %x is %x, want %x", i, unit, got, twin(unit, i))
			}
			i++
			if i > int(last) {
				break
			}
		}
		if want := min(space(len(unit)), int(last)+1); i != want {
			t.Errorf("P4.4: %d twins of %x, want %d", i, unit, want)
		}
	})
}
