package crc_test

import (
	"hash/crc32"
	"math"
	"math/bits"
	"math/rand"
	"slices"
	"testing"
	"time"

	"solvent/crc"
)

const polynomial = 0x82F63B78

// The references below follow the chapter bit by bit, or use the standard library.

// feed feeds a byte to a register, as the chapter defines it.
func feed(r uint32, x byte) uint32 {
	r ^= uint32(x)
	for range 8 {
		out := r & 1
		r >>= 1
		if out == 1 {
			r ^= polynomial
		}
	}
	return r
}

// extend returns the checksum of P3.2.
func extend(c uint32, b []byte) uint32 {
	r := ^c
	for _, x := range b {
		r = feed(r, x)
	}
	return ^r
}

// product returns the product of two registers as polynomials modulo that of the checksum; the highest bit is x^0.
func product(a, b uint32) uint32 {
	p := uint32(0)
	for i := range 32 {
		if a>>(31-i)&1 == 1 {
			p ^= b
		}
		low := b & 1
		b >>= 1
		if low == 1 {
			b ^= polynomial
		}
	}
	return p
}

// fedZeros returns the register after n >= 0 zero bytes: its product with x^8n.
func fedZeros(r uint32, n int) uint32 {
	square := uint32(1) << (31 - 8) // x^8
	for ; n > 0; n >>= 1 {
		if n&1 == 1 {
			r = product(r, square)
		}
		square = product(square, square)
	}
	return r
}

// zeros returns the checksum of P3.3.
func zeros(c uint32, n int) uint32 {
	if n < 0 {
		return c
	}
	return ^fedZeros(^c, n)
}

func random(r *rand.Rand, n int) []byte {
	b := make([]byte, n)
	r.Read(b)
	return b
}

// registers returns values of checksums: special ones and random ones.
func registers(r *rand.Rand) []uint32 {
	l := []uint32{0, 1, 7, polynomial, ^uint32(polynomial), math.MaxUint32, math.MaxUint32 - 1, 1 << 31, 0xE3069283}
	for i := range 32 {
		l = append(l, 1<<i)
	}
	for range 32 {
		l = append(l, r.Uint32())
	}
	return l
}

// lengths returns numbers of zero bytes, from none to more than any memory holds.
func lengths(r *rand.Rand) []int {
	l := []int{math.MaxInt, math.MaxInt - 1, 1<<31 - 1, 1<<31 - 2, 1 << 31, 1<<32 + 1}
	for n := range 40 {
		l = append(l, n)
	}
	for i := range 63 {
		l = append(l, 1<<i, 1<<i-1, r.Int()>>i)
	}
	return l
}

// negative returns negative numbers of bytes.
func negative() []int {
	return []int{-1, -2, -8, -1 << 31, -1<<31 - 1, -1 << 32, math.MinInt + 1, math.MinInt}
}

func TestExamples(t *testing.T) {
	for i, x := range []struct{ got, want uint32 }{
		{crc.Of([]byte("123456789")), 0xE3069283},
		{crc.Of(nil), 0},
		{crc.Of([]byte{}), 0},
		{crc.Extend(crc.Of([]byte("1234")), []byte("56789")), 0xE3069283},
		{crc.Combine(crc.Of([]byte("1234")), crc.Of([]byte("56789")), 5), 0xE3069283},
		{crc.Combine(7, 5, 0), 2},
		{crc.Combine(7, 5, -1), 2},
	} {
		if x.got != x.want {
			t.Errorf("example %d: %#x, want %#x", i, x.got, x.want)
		}
	}
}

// TestVectors checks the test vectors of RFC 3720.
func TestVectors(t *testing.T) {
	rising, falling := make([]byte, 32), make([]byte, 32)
	for i := range rising {
		rising[i], falling[i] = byte(i), byte(31-i)
	}
	for i, x := range []struct {
		b    []byte
		want uint32
	}{
		{make([]byte, 32), 0x8A9136AA},
		{slices.Repeat([]byte{255}, 32), 0x62A8AB43},
		{rising, 0x46DD794E},
		{falling, 0x113FDB5C},
	} {
		if got := crc.Of(x.b); got != x.want {
			t.Errorf("P3.1: vector %d: %#x, want %#x", i, got, x.want)
		}
	}
}

func TestOf(t *testing.T) {
	r := rand.New(rand.NewSource(1))
	table := crc32.MakeTable(crc32.Castagnoli)
	check := func(b []byte) {
		t.Helper()
		want := extend(0, b)
		if std := crc32.Checksum(b, table); std != want {
			t.Fatalf("the references disagree on %x: %#x, %#x", b, std, want)
		}
		if got := crc.Of(b); got != want {
			t.Fatalf("P3.1: Of(%x) = %#x, want %#x", b, got, want)
		}
	}
	for i := range 1 << 16 {
		check([]byte{byte(i), byte(i >> 8)})
	}
	for i := range 256 {
		check([]byte{byte(i)})
		check(slices.Repeat([]byte{byte(i)}, i))
		check(random(r, i))
		check(random(r, r.Intn(5000)))
	}
}

func TestExtend(t *testing.T) {
	r := rand.New(rand.NewSource(2))
	for _, c := range registers(r) {
		if got := crc.Extend(c, nil); got != c {
			t.Errorf("P3.2: Extend(%#x, no bytes) = %#x", c, got)
		}
		for n := range 130 {
			b := random(r, n)
			if got, want := crc.Extend(c, b), extend(c, b); got != want {
				t.Fatalf("P3.2: Extend(%#x, %x) = %#x, want %#x", c, b, got, want)
			}
		}
		for i := range 256 {
			if got, want := crc.Extend(c, []byte{byte(i)}), extend(c, []byte{byte(i)}); got != want {
				t.Fatalf("P3.2: Extend(%#x, %d) = %#x, want %#x", c, i, got, want)
			}
		}
	}
}

// TestParts checks that extending by the parts of a string is the same as extending by the whole.
func TestParts(t *testing.T) {
	r := rand.New(rand.NewSource(3))
	for n := range 100 {
		b := random(r, n)
		c := r.Uint32()
		for i := range n + 1 {
			if got, want := crc.Extend(crc.Extend(c, b[:i]), b[i:]), crc.Extend(c, b); got != want {
				t.Fatalf("P3.5: %d of %d bytes: %#x, want %#x", i, n, got, want)
			}
			if got, want := crc.Extend(crc.Of(b[:i]), b[i:]), crc.Of(b); got != want {
				t.Fatalf("P3.2: %d of %d bytes: %#x, want %#x", i, n, got, want)
			}
		}
		got, rest := c, b
		for len(rest) > 0 {
			k := r.Intn(min(len(rest), 9) + 1)
			got, rest = crc.Extend(got, rest[:k]), rest[k:]
		}
		if want := crc.Extend(c, b); got != want {
			t.Fatalf("P3.5: parts of %d bytes: %#x, want %#x", n, got, want)
		}
	}
}

func TestZeros(t *testing.T) {
	r := rand.New(rand.NewSource(4))
	many := make([]byte, 1<<16+7)
	for _, c := range registers(r) {
		if got := crc.Zeros(c, 0); got != c {
			t.Errorf("P3.3: Zeros(%#x, 0) = %#x", c, got)
		}
		for _, n := range negative() {
			if got := crc.Zeros(c, n); got != c {
				t.Errorf("P3.3: Zeros(%#x, %d) = %#x", c, n, got)
			}
		}
		for _, n := range []int{1, 2, 3, 4, 5, 7, 8, 9, 31, 32, 33, 60, 255, 256, 257, 4095, 1 << 16, len(many)} {
			if got, want := crc.Zeros(c, n), extend(c, many[:n]); got != want {
				t.Errorf("P3.3: Zeros(%#x, %d) = %#x, want %#x", c, n, got, want)
			}
		}
	}
	for n := range 700 {
		c := r.Uint32()
		if got, want := crc.Zeros(c, n), crc.Extend(c, many[:n]); got != want {
			t.Errorf("P3.3: Zeros(%#x, %d) = %#x, want %#x", c, n, got, want)
		}
	}
}

// inTime fails unless f ends soon.
func inTime(t *testing.T, f func()) {
	t.Helper()
	done := make(chan struct{})
	go func() {
		defer close(done)
		f()
	}()
	select {
	case <-done:
	case <-time.After(2 * time.Minute):
		t.Fatal("P3.3: the steps are as many as the bytes, not as the bits of their number")
	}
}

func TestLongZeros(t *testing.T) {
	r := rand.New(rand.NewSource(5))
	inTime(t, func() {
		for _, n := range lengths(r) {
			for _, c := range []uint32{0, math.MaxUint32, 1, r.Uint32()} {
				if got, want := crc.Zeros(c, n), zeros(c, n); got != want {
					t.Errorf("P3.3: Zeros(%#x, %d) = %#x, want %#x", c, n, got, want)
				}
			}
			c, k := r.Uint32(), r.Intn(n/2+1)
			if crc.Zeros(crc.Zeros(c, k), n-k) != crc.Zeros(c, n) {
				t.Errorf("P3.3: Zeros(%#x) by %d and %d bytes", c, k, n-k)
			}
		}
	})
}

func TestCombine(t *testing.T) {
	r := rand.New(rand.NewSource(6))
	for n := range 80 {
		b := random(r, n)
		for i := range n + 1 {
			x, y := crc.Of(b[:i]), crc.Of(b[i:])
			if got, want := crc.Combine(x, y, n-i), extend(0, b); got != want {
				t.Fatalf("P3.4: %d of %d bytes: %#x, want %#x", i, n, got, want)
			}
		}
	}
	long := random(r, 300000)
	for range 20 {
		i := r.Intn(len(long))
		if crc.Combine(crc.Of(long[:i]), crc.Of(long[i:]), len(long)-i) != extend(0, long) {
			t.Errorf("P3.4: %d of %d bytes", i, len(long))
		}
	}
}

// TestCombineAny checks any a and b, which need not be the checksums of known strings, and any length.
func TestCombineAny(t *testing.T) {
	r := rand.New(rand.NewSource(7))
	inTime(t, func() {
		for _, a := range registers(r) {
			for _, b := range []uint32{0, 5, math.MaxUint32, r.Uint32()} {
				for _, n := range append(negative(), 0) {
					if got := crc.Combine(a, b, n); got != a^b {
						t.Errorf("P3.4: Combine(%#x, %#x, %d) = %#x", a, b, n, got)
					}
				}
				for _, n := range []int{1, 2, 3, 32, 60, 1 << 20, 1<<31 - 1, r.Int()} {
					if got, want := crc.Combine(a, b, n), b^zeros(a, n)^zeros(0, n); got != want {
						t.Errorf("P3.4: Combine(%#x, %#x, %d) = %#x, want %#x", a, b, n, got, want)
					}
					if got, want := crc.Combine(a, b, n), b^crc.Zeros(a, n)^crc.Zeros(0, n); got != want {
						t.Errorf("P3.4: Combine(%#x, %#x, %d) = %#x, not the XOR of the Zeros: %#x", a, b, n, got, want)
					}
				}
			}
		}
		for _, n := range lengths(r) {
			a, b := r.Uint32(), r.Uint32()
			if got, want := crc.Combine(a, b, n), b^zeros(a, n)^zeros(0, n); got != want {
				t.Errorf("P3.4: Combine(%#x, %#x, %d) = %#x, want %#x", a, b, n, got, want)
			}
		}
	})
}

// differences returns, for each bit of n bytes from position at on, by what the checksum of b changes when that bit does.
func differences(b []byte, at, n int) []uint32 {
	l := make([]uint32, 8*n)
	c, changed := crc.Of(b), slices.Clone(b)
	for i := range l {
		changed[at+i/8] ^= 1 << (i % 8)
		l[i] = c ^ crc.Of(changed)
		changed[at+i/8] ^= 1 << (i % 8)
	}
	return l
}

// independent tells that no XOR of one or more of the values is 0.
func independent(l []uint32) bool {
	var byBit [33]uint32
	for _, x := range l {
		for x != 0 && byBit[bits.Len32(x)] != 0 {
			x ^= byBit[bits.Len32(x)]
		}
		if x == 0 {
			return false
		}
		byBit[bits.Len32(x)] = x
	}
	return true
}

// TestLinear checks that the checksum changes by the XOR of what the changed bits amount to, whatever the string is:
// the two tests after this one rely on that.
func TestLinear(t *testing.T) {
	r := rand.New(rand.NewSource(8))
	for n := range 100 {
		b, change := random(r, n), random(r, n)
		changed, want := slices.Clone(b), crc.Of(b)
		for i, d := range differences(random(r, n), 0, n) {
			if change[i/8]>>(i%8)&1 == 1 {
				changed[i/8] ^= 1 << (i % 8)
				want ^= d
			}
		}
		if got := crc.Of(changed); got != want {
			t.Fatalf("P3.5: %x, changed by %x: %#x, want %#x", b, change, got, want)
		}
	}
}

// TestAdjacent checks that every change of up to four adjacent bytes is detected: none of the changes of their bits cancel
// each other out.
func TestAdjacent(t *testing.T) {
	r := rand.New(rand.NewSource(9))
	for _, n := range []int{1, 2, 3, 4, 5, 8, 31, 32, 33, 60, 63, 64, 65, 256, 4096, 20000} {
		b := random(r, n)
		width := min(n, 4)
		for at := 0; at <= n-width; at += 1 + n/100 {
			if !independent(differences(b, at, width)) {
				t.Fatalf("P3.5: a change of the %d bytes from %d of %d is not detected", width, at, n)
			}
		}
	}
	for range 20000 {
		b := random(r, 1+r.Intn(100))
		changed := slices.Clone(b)
		at := r.Intn(len(b))
		r.Read(changed[at:min(len(b), at+1+r.Intn(4))])
		if (crc.Of(b) == crc.Of(changed)) != slices.Equal(b, changed) {
			t.Fatalf("P3.5: the change of %x to %x is not detected", b, changed)
		}
	}
}

// TestThreeBits checks that every change of up to three bits is detected in strings of up to 64 bytes.
func TestThreeBits(t *testing.T) {
	r := rand.New(rand.NewSource(10))
	for n := 1; n <= 64; n++ {
		l := differences(random(r, n), 0, n)
		known := make(map[uint32]bool, len(l))
		for i, x := range l {
			if x == 0 || known[x] {
				t.Fatalf("P3.5: a change of bit %d, or of it and an earlier one, of %d bytes is not detected", i, n)
			}
			known[x] = true
		}
		for i, x := range l {
			for _, y := range l[:i] { // x^y is neither x nor y, which are not 0
				if known[x^y] {
					t.Fatalf("P3.5: a change of bit %d and of two others of %d bytes is not detected", i, n)
				}
			}
		}
	}
}

// Arguments are not changed, and a result depends on nothing but them.
func TestMemory(t *testing.T) {
	r := rand.New(rand.NewSource(11))
	b := random(r, 200)
	kept := slices.Clone(b)
	first, second := crc.Of(b), crc.Extend(9, b[50:70])
	crc.Zeros(first, 200)
	crc.Combine(first, second, 20)
	if crc.Of(b) != first || crc.Extend(9, b[50:70]) != second || !slices.Equal(b, kept) {
		t.Error("a call changes its argument, or a later result")
	}
}

// P1 of the document: no call panics, whatever it is given.
func FuzzChecksums(f *testing.F) {
	f.Add(uint32(0), uint32(5), 3, []byte("123456789"))
	f.Add(uint32(math.MaxUint32), uint32(1), math.MinInt, []byte{})
	f.Add(uint32(polynomial), uint32(polynomial), math.MaxInt, []byte{0})
	f.Fuzz(func(t *testing.T, a, b uint32, n int, s []byte) {
		if got, want := crc.Extend(a, s), extend(a, s); got != want {
			t.Errorf("P3.2: Extend(%#x, %x) = %#x, want %#x", a, s, got, want)
		}
		if got, want := crc.Zeros(a, n), zeros(a, n); got != want {
			t.Errorf("P3.3: Zeros(%#x, %d) = %#x, want %#x", a, n, got, want)
		}
		if got, want := crc.Combine(a, b, n), b^zeros(a, n)^zeros(0, n); got != want {
			t.Errorf("P3.4: Combine(%#x, %#x, %d) = %#x, want %#x", a, b, n, got, want)
		}
		if got, want := crc.Combine(a, crc.Of(s), len(s)), extend(a, s); got != want {
			t.Errorf("P3.4: %#x and the checksum of %x: %#x, want %#x", a, s, got, want)
		}
	})
}
