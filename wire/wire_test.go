package wire_test

import (
	"bytes"
	"cmp"
	"fmt"
	"math"
	"math/big"
	"math/rand"
	"runtime"
	"slices"
	"strings"
	"testing"

	"solvent/api"
	"solvent/wire"
)

// spell encodes an integer as P1.1 says, with integers of unlimited size.
func spell(n int) []byte {
	m := big.NewInt(int64(n))
	if n >= 0 {
		digits := m.Bytes()
		return append([]byte{byte(128 + len(digits))}, digits...)
	}
	digits := m.Sub(big.NewInt(-1), m).Bytes()
	b := []byte{byte(127 - len(digits))}
	for _, d := range digits {
		b = append(b, 255-d)
	}
	return b
}

// samples returns integers around all bounds of the encoding, and some random ones, in increasing order.
func samples() []int {
	l := []int{math.MinInt, math.MinInt + 1, math.MaxInt - 1, math.MaxInt}
	for shift := range 63 {
		for d := -2; d <= 2; d++ {
			l = append(l, 1<<shift+d, -1<<shift+d)
		}
	}
	r := rand.New(rand.NewSource(1))
	for range 500 {
		l = append(l, int(r.Uint64())>>r.Intn(64))
	}
	slices.Sort(l)
	return slices.Compact(l)
}

// strange returns byte sequences: all of up to two bytes, and random ones with many first bytes of integers.
func strange() [][]byte {
	l := [][]byte{nil}
	for i := range 256 {
		l = append(l, []byte{byte(i)})
		for j := range 256 {
			l = append(l, []byte{byte(i), byte(j)})
		}
	}
	r := rand.New(rand.NewSource(2))
	heads := []byte{118, 119, 120, 124, 125, 126, 127, 128, 129, 130, 131, 135, 136, 137, 0, 1, 2, 255}
	for range 100000 {
		b := make([]byte, r.Intn(60))
		for i := range b {
			b[i] = byte(r.Intn(256))
			if r.Intn(3) > 0 {
				b[i] = heads[r.Intn(len(heads))]
			}
		}
		if len(b) > 1 && r.Intn(2) > 0 {
			b[0], b[1] = 129, byte(r.Intn(4))
		}
		l = append(l, b)
	}
	return l
}

// codec is a pair of functions for one type of values.
type codec[T any] struct {
	name   string
	encode func(T) []byte
	decode func([]byte) (T, int, api.Errno)
	same   func(a, b T) bool
	empty  func(T) bool
}

var (
	ints = codec[int]{"GetInt", wire.Int, wire.GetInt,
		func(a, b int) bool { return a == b }, func(n int) bool { return n == 0 }}
	texts = codec[string]{"GetBytes", wire.Bytes, wire.GetBytes,
		func(a, b string) bool { return a == b }, func(s string) bool { return s == "" }}
	lists = codec[[]int]{"GetInts", wire.Ints, wire.GetInts,
		slices.Equal[[]int], func(l []int) bool { return len(l) == 0 }}
	digests = codec[[]api.Digest]{"GetDigests", wire.Digests, wire.GetDigests,
		slices.Equal[[]api.Digest], func(l []api.Digest) bool { return len(l) == 0 }}
)

// good checks that b decodes to v, and that used bytes are consumed.
func (c codec[T]) good(t *testing.T, promise string, b []byte, v T, used int) {
	t.Helper()
	before := bytes.Clone(b[:cap(b)])
	got, n, e := c.decode(b)
	if e != api.OK || n != used || !c.same(got, v) {
		t.Errorf("%s: %s(%v) = %v, %d, %d, want %v, %d, 0", promise, c.name, b, got, n, e, v, used)
	}
	if !bytes.Equal(before, b[:cap(b)]) {
		t.Errorf("%s: %s changed its argument %v", promise, c.name, before)
	}
}

// bad checks that b yields an error and zero values.
func (c codec[T]) bad(t *testing.T, promise string, b []byte, want api.Errno) {
	t.Helper()
	got, n, e := c.decode(b)
	if e != want || n != 0 || !c.empty(got) {
		t.Errorf("%s: %s(%v) = %v, %d, %d, want zero values and %d", promise, c.name, b, got, n, e, want)
	}
}

// whole checks P1.6 for a value.
func (c codec[T]) whole(t *testing.T, v T) {
	t.Helper()
	b := c.encode(v)
	for _, tail := range [][]byte{nil, {0}, {118}, {128}, {255, 255}, bytes.Repeat([]byte{137}, 40)} {
		c.good(t, "P1.6", slices.Concat(b, tail), v, len(b))
	}
	for n := range b {
		c.bad(t, "P1.6: a prefix", b[:n], api.ErrTruncated)
		c.bad(t, "P1.6: a prefix", bytes.Clone(b[:n]), api.ErrTruncated)
	}
}

// canonical checks that what is decoded from b has the consumed bytes as its encoding.
func (c codec[T]) canonical(t *testing.T, b []byte) {
	t.Helper()
	v, n, e := c.decode(b)
	switch e {
	case api.OK:
		if n < 1 || n > len(b) || !bytes.Equal(c.encode(v), b[:n]) {
			t.Errorf("P1.6: %s(%v) = %v, %d, but its encoding is %v", c.name, b, v, n, c.encode(v))
		}
	case api.ErrTruncated, api.ErrEncoding:
		c.bad(t, "P1.6", b, e)
	default:
		t.Errorf("P1.2: %s(%v): error %d", c.name, b, e)
	}
}

func TestIntEncoding(t *testing.T) {
	for _, x := range []struct {
		n int
		b []byte
	}{
		{0, []byte{128}}, {1, []byte{129, 1}}, {255, []byte{129, 255}}, {256, []byte{130, 1, 0}},
		{65535, []byte{130, 255, 255}}, {65536, []byte{131, 1, 0, 0}}, {1<<56 - 1, []byte{135, 255, 255, 255, 255, 255, 255, 255}},
		{1 << 56, []byte{136, 1, 0, 0, 0, 0, 0, 0, 0}}, {math.MaxInt, []byte{136, 127, 255, 255, 255, 255, 255, 255, 255}},
		{-1, []byte{127}}, {-2, []byte{126, 254}}, {-256, []byte{126, 0}}, {-257, []byte{125, 254, 255}},
		{-65536, []byte{125, 0, 0}}, {-65537, []byte{124, 254, 255, 255}}, {-1 << 56, []byte{120, 0, 0, 0, 0, 0, 0, 0}},
		{-1<<56 - 1, []byte{119, 254, 255, 255, 255, 255, 255, 255, 255}}, {math.MinInt, []byte{119, 128, 0, 0, 0, 0, 0, 0, 0}},
	} {
		if b := wire.Int(x.n); !bytes.Equal(b, x.b) {
			t.Errorf("P1.1: Int(%d) = %v, want %v", x.n, b, x.b)
		}
	}
	for _, n := range samples() {
		if b := wire.Int(n); !bytes.Equal(b, spell(n)) {
			t.Errorf("P1.1: Int(%d) = %v, want %v", n, b, spell(n))
		}
	}
}

func TestIntDecoding(t *testing.T) {
	for _, n := range samples() {
		b := spell(n)
		ints.good(t, "P1.2", b, n, len(b))
		ints.good(t, "P1.2", append(b, 7, 200), n, len(b))
	}
}

func TestIntErrors(t *testing.T) {
	ints.bad(t, "P1.2", nil, api.ErrTruncated)
	ints.bad(t, "P1.2", []byte{}, api.ErrTruncated)
	for first := range 256 {
		k := first - 128
		if first < 128 {
			k = 127 - first
		}
		for n := range 12 {
			b := append([]byte{byte(first)}, bytes.Repeat([]byte{100}, n)...)
			switch {
			case k > 8:
				ints.bad(t, "P1.2: the first byte", b, api.ErrEncoding)
			case n < k:
				ints.bad(t, "P1.2: too few bytes", b, api.ErrTruncated)
			case k == 8 && first < 128: // m is 155 * 2^56 and more
				ints.bad(t, "P1.2: a large m", b, api.ErrEncoding)
			default:
				if _, used, e := wire.GetInt(b); used != 1+k || e != api.OK {
					t.Errorf("P1.2: GetInt(%v): %d bytes, error %d", b, used, e)
				}
			}
		}
	}
	for k := 1; k <= 8; k++ {
		long := append([]byte{byte(128 + k)}, make([]byte, k)...)
		minus := append([]byte{byte(127 - k)}, bytes.Repeat([]byte{255}, k)...)
		for _, b := range [][]byte{long, minus} {
			ints.bad(t, "P1.2: truncated before it is checked", b[:k], api.ErrTruncated)
			ints.bad(t, "P1.2: zero with too many bytes", b, api.ErrEncoding)
			b[k] ^= 1
			if k > 1 {
				ints.bad(t, "P1.2: too many bytes", b, api.ErrEncoding)
				ints.bad(t, "P1.2: too many bytes", append(b, 1, 2, 3), api.ErrEncoding)
			}
		}
	}
	for _, head := range []byte{128, 129, 200, 255} {
		tail := []byte{0, 0, 0, 0, 0, 0, 0}
		ints.bad(t, "P1.2: more than 2^63 - 1", slices.Concat([]byte{136, head}, tail), api.ErrEncoding)
		ints.bad(t, "P1.2: less than -2^63", slices.Concat([]byte{119, 255 - head}, tail), api.ErrEncoding)
	}
}

func TestBytes(t *testing.T) {
	for _, n := range []int{0, 1, 2, 31, 32, 127, 128, 255, 256, 257, 4096, 65535, 65536, 70000} {
		s := strings.Repeat("\x00\xffa\x80", n/4+1)[:n]
		want := append(spell(n), s...)
		if b := wire.Bytes(s); !bytes.Equal(b, want) {
			t.Errorf("P1.3: Bytes of %d bytes is wrong", n)
		}
		texts.good(t, "P1.3", want, s, len(want))
		texts.good(t, "P1.3", append(want, 129, 0), s, len(want))
	}
	if b := wire.Bytes("ab"); !bytes.Equal(b, []byte{129, 2, 97, 98}) {
		t.Errorf(`P1.3: Bytes("ab") = %v`, b)
	}
	texts.bad(t, "P1.3", []byte{129, 3, 97, 98}, api.ErrTruncated)
}

func TestInts(t *testing.T) {
	for _, x := range []struct {
		l []int
		b []byte
	}{
		{nil, []byte{128}}, {[]int{}, []byte{128}}, {[]int{0}, []byte{129, 1, 128}}, {[]int{1, -1}, []byte{129, 2, 129, 1, 127}},
		{[]int{-257, 256, 0}, []byte{129, 3, 125, 254, 255, 130, 1, 0, 128}}, {make([]int, 3), []byte{129, 3, 128, 128, 128}},
	} {
		if b := wire.Ints(x.l); !bytes.Equal(b, x.b) {
			t.Errorf("P1.4: Ints(%v) = %v, want %v", x.l, b, x.b)
		}
		lists.good(t, "P1.4", x.b, x.l, len(x.b))
		lists.good(t, "P1.4", append(x.b, 118), x.l, len(x.b))
	}
	l := samples()
	b := spell(len(l))
	for _, n := range l {
		b = append(b, spell(n)...)
	}
	if !bytes.Equal(wire.Ints(l), b) {
		t.Error("P1.4: Ints of many integers is wrong")
	}
	lists.good(t, "P1.4", b, l, len(b))
	for _, x := range []struct {
		b []byte
		e api.Errno
	}{
		{[]byte{129, 1}, api.ErrTruncated},                           // fewer bytes than elements
		{[]byte{129, 2, 118}, api.ErrTruncated},                      // the same, before the elements are decoded
		{[]byte{129, 3, 129, 0}, api.ErrTruncated},                   // the same
		{[]byte{129, 1, 118}, api.ErrEncoding},                       // the first element
		{[]byte{129, 2, 128, 137}, api.ErrEncoding},                  // the second one
		{[]byte{129, 2, 129, 0, 128}, api.ErrEncoding},               // not canonical
		{[]byte{129, 2, 130, 1}, api.ErrTruncated},                   // within the first element
		{[]byte{129, 2, 129, 5}, api.ErrTruncated},                   // before the second one
		{[]byte{129, 3, 128, 118, 130}, api.ErrEncoding},             // the first of two errors
		{[]byte{129, 2, 130, 118}, api.ErrTruncated},                 // the first of two errors
		{[]byte{129, 2, 128, 136, 128, 0, 0, 0}, api.ErrTruncated},   // within a large element
		{[]byte{129, 1, 119, 1, 2, 3, 4, 5, 6, 7}, api.ErrTruncated}, // within a negative one
	} {
		lists.bad(t, "P1.4", x.b, x.e)
	}
}

func TestDigests(t *testing.T) {
	r := rand.New(rand.NewSource(3))
	for _, n := range []int{0, 1, 2, 3, 15, 16, 17, 255, 256, 300} {
		l := make([]api.Digest, n)
		want := spell(n)
		for i := range l {
			r.Read(l[i][:])
			want = append(want, l[i][:]...)
		}
		if b := wire.Digests(l); !bytes.Equal(b, want) {
			t.Errorf("P1.5: Digests of %d digests is wrong", n)
		}
		digests.good(t, "P1.5", want, l, len(want))
		digests.good(t, "P1.5", append(bytes.Clone(want), make([]byte, 20)...), l, len(want))
		if n > 0 {
			digests.bad(t, "P1.5", want[:len(want)-1], api.ErrTruncated)
			digests.bad(t, "P1.5", want[:len(want)-api.DigestSize], api.ErrTruncated)
		}
	}
	if b := wire.Digests(nil); !bytes.Equal(b, []byte{128}) {
		t.Errorf("P1.5: Digests(nil) = %v", b)
	}
	digests.bad(t, "P1.5", append([]byte{129, 2}, make([]byte, 31)...), api.ErrTruncated)
}

// lengths checks the errors that the lengths of strings and lists have in common.
func lengths[T any](t *testing.T, promise string, c codec[T]) {
	t.Helper()
	fill := bytes.Repeat([]byte{128}, 100)
	for _, b := range [][]byte{nil, {129}, {130, 1}, {136, 0, 0}, {119}, {126}} {
		c.bad(t, promise+": no length", b, api.ErrTruncated)
	}
	for _, b := range [][]byte{{118}, {137}, {0}, {255}, {129, 0}, {130, 0, 1}, {126, 255}, {136, 128, 0, 0, 0, 0, 0, 0, 0}} {
		c.bad(t, promise+": not a length", b, api.ErrEncoding)
		c.bad(t, promise+": not a length", slices.Concat(b, fill), api.ErrEncoding)
	}
	for _, n := range []int{-1, -2, -256, -257, -1 << 60, math.MinInt} {
		c.bad(t, promise+": a negative length", spell(n), api.ErrEncoding)
		c.bad(t, promise+": a negative length", slices.Concat(spell(n), fill), api.ErrEncoding)
	}
	// The products of some of these lengths with the sizes of elements are not representable.
	for _, n := range []int{101, 1 << 20, 1 << 31, 1 << 32, 1 << 59, 1 << 60, 1<<60 + 1, 1<<61 + 1, 1<<62 + 3, math.MaxInt - 8, math.MaxInt} {
		c.bad(t, promise+": a long one", spell(n), api.ErrTruncated)
		c.bad(t, promise+": a long one", slices.Concat(spell(n), fill), api.ErrTruncated)
	}
}

func TestLengths(t *testing.T) {
	lengths(t, "P1.3", texts)
	lengths(t, "P1.4", lists)
	lengths(t, "P1.5", digests)
}

// allocated returns the number of bytes that a call allocates.
func allocated(call func()) uint64 {
	var before, after runtime.MemStats
	runtime.ReadMemStats(&before)
	call()
	runtime.ReadMemStats(&after)
	return after.TotalAlloc - before.TotalAlloc
}

func TestMemory(t *testing.T) {
	for _, n := range []int{1 << 22, 1 << 26, math.MaxInt} {
		b := append(spell(n), bytes.Repeat([]byte{128}, 1000)...)
		for i, call := range []func(){
			func() { wire.GetBytes(b) }, func() { wire.GetInts(b) }, func() { wire.GetDigests(b) },
		} {
			if size := allocated(call); size > 1<<20 {
				t.Errorf("P1.3 to P1.5: decoder %d allocates %d bytes for %d", i, size, len(b))
			}
		}
	}
}

func TestWhole(t *testing.T) {
	r := rand.New(rand.NewSource(4))
	l := samples()
	for _, n := range l {
		ints.whole(t, n)
	}
	for n := range 40 {
		some, hashes, text := make([]int, n), make([]api.Digest, n), make([]byte, 8*n)
		for i := range some {
			some[i] = l[r.Intn(len(l))]
			r.Read(hashes[i][:])
		}
		r.Read(text)
		lists.whole(t, some)
		digests.whole(t, hashes)
		texts.whole(t, string(text))
	}
	lists.whole(t, make([]int, 300))
	texts.whole(t, strings.Repeat("x", 300))
}

func TestCanonical(t *testing.T) {
	for _, b := range strange() {
		ints.canonical(t, b)
		texts.canonical(t, b)
		lists.canonical(t, b)
		digests.canonical(t, b)
	}
}

func TestOrder(t *testing.T) {
	l := samples()
	for _, m := range l {
		a := wire.Int(m)
		if len(a) < 1 || len(a) > 9 {
			t.Errorf("P1.7: Int(%d) has %d bytes", m, len(a))
		}
		for _, n := range l {
			if bytes.Compare(a, wire.Int(n)) != cmp.Compare(m, n) {
				t.Errorf("P1.7: Int(%d) and Int(%d) are in the wrong order", m, n)
			}
		}
	}
}

// Results are new memory: a change of a result or of an argument shows in no other value.
func TestSharing(t *testing.T) {
	for _, n := range []int{0, -1, 5, math.MinInt} {
		b := wire.Int(n)
		for i := range b[:cap(b)] {
			b[:cap(b)][i] = 77
		}
		if !bytes.Equal(wire.Int(n), spell(n)) {
			t.Errorf("P1.1: a change of the result of Int(%d) shows in the next one", n)
		}
	}
	b := wire.Bytes("abc")
	s, _, _ := wire.GetBytes(b)
	clear(b)
	if s != "abc" {
		t.Errorf("P1.3: the string shares memory with the argument: %q", s)
	}
	l := []api.Digest{{1}, {2}}
	b = wire.Digests(l)
	got, _, _ := wire.GetDigests(b)
	clear(b)
	if !slices.Equal(got, l) || l[0] != (api.Digest{1}) {
		t.Errorf("P1.5: the digests share memory with the argument: %v", got)
	}
	list := []int{3, -4}
	wire.Ints(list)
	if fmt.Sprint(list) != "[3 -4]" {
		t.Errorf("P1.4: Ints changed its argument: %v", list)
	}
}

// P1 of the document: no decoder panics, whatever it is given.
func FuzzDecoders(f *testing.F) {
	f.Add([]byte{})
	f.Add([]byte{136, 127, 255, 255, 255, 255, 255, 255, 255, 1})
	f.Add([]byte{119, 128, 0, 0, 0, 0, 0, 0, 0, 1})
	f.Add([]byte{129, 2, 129, 1, 127})
	f.Add(wire.Digests(make([]api.Digest, 3)))
	f.Fuzz(func(t *testing.T, b []byte) {
		ints.canonical(t, b)
		texts.canonical(t, b)
		lists.canonical(t, b)
		digests.canonical(t, b)
	})
}
