package digest_test

import (
	"bytes"
	"crypto/sha256"
	"encoding/hex"
	"math"
	"math/big"
	"math/rand"
	"slices"
	"strings"
	"testing"

	"solvent/api"
	"solvent/digest"
)

// The references below follow the chapter with the standard library's SHA-256 and an encoding of their own.

// frame returns the encoding of a part: its length (not negative, hence as in the first half of P1.1) and its bytes.
func frame(s string) []byte {
	size := big.NewInt(int64(len(s))).Bytes()
	return slices.Concat([]byte{byte(128 + len(size))}, size, []byte(s))
}

// of returns the digest of P2.2 for a tag from 0 to 255.
func of(tag byte, parts ...string) api.Digest {
	b := []byte{tag}
	for _, p := range parts {
		b = append(b, frame(p)...)
	}
	sum := sha256.Sum256(b)
	return api.Digest(sum[:16])
}

func leaf(d api.Digest) api.Digest    { return of(1, string(d[:])) }
func node(x, y api.Digest) api.Digest { return of(2, string(x[:]), string(y[:])) }

// root returns the root of a list.
func root(l []api.Digest) api.Digest {
	switch len(l) {
	case 0:
		return of(1)
	case 1:
		return leaf(l[0])
	}
	k := 1
	for 2*k < len(l) {
		k *= 2
	}
	return node(root(l[:k]), root(l[k:]))
}

// sibling is a part of a list: the elements from low to high-1; before tells that it precedes the path's part.
type sibling struct {
	low, high int
	before    bool
}

// siblings returns the siblings of the path of index i in a list of n elements, the one nearest to the element first.
func siblings(n, i int) []sibling {
	var l []sibling
	low, high := 0, n
	for high-low > 1 {
		k := 1
		for k < high-low-k {
			k *= 2
		}
		if i < low+k {
			l = append(l, sibling{low + k, high, false})
			high = low + k
		} else {
			l = append(l, sibling{low, low + k, true})
			low += k
		}
	}
	slices.Reverse(l)
	return l
}

// prefixPath returns the first index of the greatest part of the tree that ends with element m-1, and the siblings of
// its path, the nearest one first. P2.6 asks for the roots of that part (unless its first index is 0) and of these.
func prefixPath(n, m int) (int, []sibling) {
	low, l := m-1, siblings(n, m-1)
	for len(l) > 0 && l[0].before {
		low = l[0].low
		l = l[1:]
	}
	return low, l
}

// climb returns the root that a proof of an element yields.
func climb(n, i int, d api.Digest, proof []api.Digest) (api.Digest, bool) {
	if i < 0 || i >= n || len(siblings(n, i)) != len(proof) {
		return api.Digest{}, false
	}
	got := leaf(d)
	for j, s := range siblings(n, i) {
		if s.before {
			got = node(proof[j], got)
		} else {
			got = node(got, proof[j])
		}
	}
	return got, true
}

// pair returns the two roots that a prefix proof yields.
func pair(old api.Digest, m, n int, proof []api.Digest) (x, y api.Digest, ok bool) {
	if m < 1 || m > n {
		return x, y, false
	}
	low, l := prefixPath(n, m)
	x, y = old, old
	if low > 0 {
		if len(proof) == 0 {
			return x, y, false
		}
		x, y, proof = proof[0], proof[0], proof[1:]
	}
	if len(proof) != len(l) {
		return x, y, false
	}
	for j, s := range l {
		if s.before {
			x, y = node(proof[j], x), node(proof[j], y)
		} else {
			y = node(y, proof[j])
		}
	}
	return x, y, true
}

// list returns n different digests.
func list(n int) []api.Digest {
	l := make([]api.Digest, n)
	for i := range l {
		l[i] = of(99, string(big.NewInt(int64(i)).Bytes()))
	}
	return l
}

// roots returns the roots of some parts of a list.
func roots(l []api.Digest, parts []sibling) []api.Digest {
	var got []api.Digest
	for _, s := range parts {
		got = append(got, root(l[s.low:s.high]))
	}
	return got
}

// flipped returns d with one bit changed.
func flipped(d api.Digest, bit int) api.Digest {
	d[bit/8%len(d)] ^= 1 << (bit % 8)
	return d
}

// altered returns a copy of a proof with one bit of one element changed.
func altered(proof []api.Digest, j, bit int) []api.Digest {
	l := slices.Clone(proof)
	l[j] = flipped(l[j], bit)
	return l
}

// sizes returns the lengths of the lists in the tests.
func sizes() []int {
	l := []int{63, 64, 65, 100, 127, 128, 129}
	for n := range 36 {
		l = append(l, n)
	}
	return l
}

func TestSumVectors(t *testing.T) {
	for _, x := range []struct{ text, want string }{
		{"", "e3b0c44298fc1c149afbf4c8996fb92427ae41e4649b934ca495991b7852b855"},
		{"abc", "ba7816bf8f01cfea414140de5dae2223b00361a396177a9cb410ff61f20015ad"},
		{"abcdbcdecdefdefgefghfghighijhijkijkljklmklmnlmnomnopnopq", "248d6a61d20638b8e5c026930c3e6039a33ce45964ff2167f6ecedd419db06c1"},
		{"abcdefghbcdefghicdefghijdefghijkefghijklfghijklmghijklmnhijklmnoijklmnopjklmnopqklmnopqrlmnopqrsmnopqrstnopqrstu", "cf5b16a778af8380036ce59e7b0492370b249b11e8f07a51afac45037afee9d1"},
		{strings.Repeat("a", 1000000), "cdc76e5c9914fb9281a1c7e284d73e67f1809a48a497200e046d39ccc7112cd0"},
	} {
		sum := digest.Sum([]byte(x.text))
		if got := hex.EncodeToString(sum[:]); got != x.want {
			t.Errorf("P2.1: Sum of %d bytes = %s, want %s", len(x.text), got, x.want)
		}
	}
}

func TestSumLengths(t *testing.T) {
	r := rand.New(rand.NewSource(1))
	lengths := []int{4095, 4096, 4097, 65536, 1<<21 - 1, 1 << 21}
	for n := range 400 {
		lengths = append(lengths, n)
	}
	for _, n := range lengths {
		b := make([]byte, n+100)
		r.Read(b)
		before := bytes.Clone(b)
		if got := digest.Sum(b[:n]); got != sha256.Sum256(b[:n]) {
			t.Errorf("P2.1: Sum of %d random bytes = %x", n, got)
		}
		if !bytes.Equal(before, b) {
			t.Errorf("P2.1: Sum of %d bytes changes its argument or what follows it", n)
		}
		if got := digest.Sum(make([]byte, n)); got != sha256.Sum256(make([]byte, n)) {
			t.Errorf("P2.1: Sum of %d zero bytes = %x", n, got)
		}
	}
	if digest.Sum(nil) != sha256.Sum256(nil) {
		t.Error("P2.1: Sum(nil) is wrong")
	}
}

func TestOf(t *testing.T) {
	for _, parts := range [][]string{
		nil, {""}, {"", ""}, {"a"}, {"ab", ""}, {"", "ab"}, {"a", "b"}, {"\x00"}, {"\xff\x80", "é"},
		{strings.Repeat("x", 255)}, {strings.Repeat("x", 256), "y"}, {strings.Repeat("z", 70000)}, {"a", "b", "c", "d", "e", "f", "g", "h"},
	} {
		for tag := -600; tag <= 600; tag++ {
			if tag > 8 && tag < 250 && len(parts) != 2 {
				continue
			}
			if got, want := digest.Of(tag, parts...), of(byte((tag+1024)%256), parts...); got != want {
				t.Errorf("P2.2: Of(%d, %d parts) = %x, want %x", tag, len(parts), got, want)
			}
		}
	}
	for tag, same := range map[int]byte{math.MinInt: 0, math.MaxInt: 255, -1: 255, -255: 1, -256: 0, 256: 0, 1<<40 + 7: 7} {
		if digest.Of(tag, "q") != of(same, "q") {
			t.Errorf("P2.2: Of(%d) does not have the tag %d", tag, same)
		}
	}
}

func TestOfKeepsPartsApart(t *testing.T) {
	seen := map[api.Digest]int{}
	for i, parts := range [][]string{nil, {""}, {"", ""}, {"ab"}, {"a", "b"}, {"", "ab"}, {"ab", ""}, {"\x81\x01a"}, {"\x80"}} {
		for tag := range 3 {
			d := digest.Of(tag, parts...)
			if at, ok := seen[d]; ok {
				t.Errorf("P2.2: lists %d and %d of parts have the same digest", at, i)
			}
			seen[d] = i
		}
	}
}

func TestRoot(t *testing.T) {
	for _, n := range append(sizes(), 1000, 4097) {
		if l := list(n); digest.Root(l) != root(l) {
			t.Errorf("P2.3: the root of %d digests is wrong", n)
		}
	}
	a, b, c := api.Digest{1}, api.Digest{2}, api.Digest{3}
	if got := digest.Root(nil); got != of(1) {
		t.Errorf("P2.3: Root(none) = %x", got)
	}
	if got := digest.Root([]api.Digest{a}); got != leaf(a) {
		t.Errorf("P2.3: Root(a) = %x", got)
	}
	if got := digest.Root([]api.Digest{a, b, c}); got != node(node(leaf(a), leaf(b)), leaf(c)) {
		t.Errorf("P2.3: Root(a, b, c) = %x", got)
	}
	if same := []api.Digest{a, a, a, a, a}; digest.Root(same) != root(same) {
		t.Error("P2.3: the root of equal digests is wrong")
	}
}

// seven returns seven digests, their leaves, and by their letters in RFC 6962 the inner nodes g, h, i, k and l of their tree.
func seven() ([]api.Digest, []api.Digest, map[byte]api.Digest) {
	l := list(7)
	var leaves []api.Digest
	for _, d := range l {
		leaves = append(leaves, leaf(d))
	}
	g, h, i := node(leaves[0], leaves[1]), node(leaves[2], leaves[3]), node(leaves[4], leaves[5])
	return l, leaves, map[byte]api.Digest{'g': g, 'h': h, 'i': i, 'k': node(g, h), 'l': node(i, leaves[6])}
}

func TestProveExamples(t *testing.T) {
	l, leaves, inner := seven()
	for i, want := range map[int][]api.Digest{
		0: {leaves[1], inner['h'], inner['l']}, 3: {leaves[2], inner['g'], inner['l']},
		4: {leaves[5], leaves[6], inner['k']}, 6: {inner['i'], inner['k']},
	} {
		if got, e := digest.Prove(l, i); e != api.OK || !slices.Equal(got, want) {
			t.Errorf("P2.4: Prove of %d in 7 digests = %x, %d, want %x", i, got, e, want)
		}
	}
	for m, want := range map[int][]api.Digest{
		3: {leaves[2], leaves[3], inner['g'], inner['l']}, 4: {inner['l']}, 6: {inner['i'], leaves[6], inner['k']}, 7: nil,
	} {
		if got, e := digest.ProvePrefix(l, m); e != api.OK || !slices.Equal(got, want) {
			t.Errorf("P2.6: ProvePrefix of %d in 7 digests = %x, %d, want %x", m, got, e, want)
		}
	}
}

func TestProve(t *testing.T) {
	for _, n := range sizes() {
		l := list(n)
		for i := range l {
			want := roots(l, siblings(n, i))
			got, e := digest.Prove(l, i)
			if e != api.OK || !slices.Equal(got, want) {
				t.Errorf("P2.4: Prove of %d in %d digests = %x, %d, want %x", i, n, got, e, want)
			}
			if !digest.Verify(digest.Root(l), n, i, l[i], got) {
				t.Errorf("P2.9: the proof of %d in %d digests is not accepted", i, n)
			}
		}
		for _, i := range []int{-1, n, n + 1, math.MinInt, math.MaxInt} {
			if got, e := digest.Prove(l, i); e != api.ErrNone || len(got) != 0 {
				t.Errorf("P2.4: Prove of %d in %d digests = %x, %d", i, n, got, e)
			}
		}
	}
	if got, e := digest.Prove(nil, 0); e != api.ErrNone || len(got) != 0 {
		t.Errorf("P2.4: Prove(nil, 0) = %x, %d", got, e)
	}
}

func TestProvePrefix(t *testing.T) {
	for _, n := range sizes() {
		l := list(n)
		for m := 1; m <= n; m++ {
			low, path := prefixPath(n, m)
			want := roots(l, path)
			if low > 0 {
				want = append([]api.Digest{root(l[low:m])}, want...)
			}
			got, e := digest.ProvePrefix(l, m)
			if e != api.OK || !slices.Equal(got, want) {
				t.Errorf("P2.6: ProvePrefix of %d in %d digests = %x, %d, want %x", m, n, got, e, want)
			}
			if !digest.VerifyPrefix(digest.Root(l[:m]), digest.Root(l), m, n, got) {
				t.Errorf("P2.9: the prefix proof of %d in %d digests is not accepted", m, n)
			}
		}
		for _, m := range []int{0, -1, n + 1, math.MinInt, math.MaxInt} {
			if got, e := digest.ProvePrefix(l, m); e != api.ErrNone || len(got) != 0 {
				t.Errorf("P2.6: ProvePrefix of %d in %d digests = %x, %d", m, n, got, e)
			}
		}
	}
	if got, e := digest.ProvePrefix(nil, 1); e != api.ErrNone || len(got) != 0 {
		t.Errorf("P2.6: ProvePrefix(nil, 1) = %x, %d", got, e)
	}
}

func TestVerifyRefuses(t *testing.T) {
	extra := api.Digest{7}
	for _, n := range sizes() {
		l := list(n)
		top := root(l)
		for i, d := range l {
			proof := roots(l, siblings(n, i))
			refuse := func(what string, top api.Digest, n, i int, d api.Digest, proof []api.Digest) {
				if digest.Verify(top, n, i, d, proof) {
					t.Errorf("P2.5: element %d of %d: accepted with %s", i, n, what)
				}
			}
			for bit := i % 8; bit < 128; bit += 17 {
				refuse("another root", flipped(top, bit), n, i, d, proof)
				refuse("another leaf", top, n, i, flipped(d, bit), proof)
				for j := range proof {
					refuse("another proof", top, n, i, d, altered(proof, j, bit))
				}
			}
			for j := range len(proof) + 1 {
				refuse("a longer proof", top, n, i, d, slices.Insert(slices.Clone(proof), j, extra))
			}
			for j := range proof {
				refuse("no root", api.Digest{}, n, i, d, proof[:j])
				refuse("a shorter proof", top, n, i, d, proof[:j])
				refuse("a shorter proof", top, n, i, d, proof[j+1:])
			}
			for j := range l {
				if j != i {
					refuse("another index", top, n, j, d, proof)
					refuse("another element", top, n, i, l[j], proof)
				}
			}
			for _, j := range []int{-1, -n, n, n + i, math.MinInt, math.MaxInt} {
				refuse("no index", top, n, j, d, proof)
			}
			for _, size := range []int{0, -1, -n, i, math.MinInt} {
				refuse("too short a list", top, size, i, d, proof)
			}
		}
	}
	if digest.Verify(of(1), 0, 0, api.Digest{}, nil) {
		t.Error("P2.5: an element of the empty list is accepted")
	}
}

func TestVerifyPrefixRefuses(t *testing.T) {
	extra := api.Digest{7}
	for _, n := range sizes() {
		l := list(n)
		top := root(l)
		for m := 1; m <= n; m++ {
			old := root(l[:m])
			proof, _ := digest.ProvePrefix(l, m)
			refuse := func(what string, old, top api.Digest, m, n int, proof []api.Digest) {
				if digest.VerifyPrefix(old, top, m, n, proof) {
					t.Errorf("P2.7: prefix %d of %d: accepted with %s", m, n, what)
				}
			}
			for bit := m % 8; bit < 128; bit += 17 {
				refuse("another root", old, flipped(top, bit), m, n, proof)
				refuse("another old root", flipped(old, bit), top, m, n, proof)
				for j := range proof {
					refuse("another proof", old, top, m, n, altered(proof, j, bit))
				}
			}
			for j := range len(proof) + 1 {
				refuse("a longer proof", old, top, m, n, slices.Insert(slices.Clone(proof), j, extra))
			}
			for j := range proof {
				refuse("no roots", api.Digest{}, api.Digest{}, m, n, proof[:j])
				refuse("a shorter proof", old, top, m, n, proof[:j])
				refuse("a shorter proof", old, top, m, n, proof[j+1:])
			}
			for _, j := range []int{0, -1, -m, n + 1, math.MinInt, math.MaxInt} {
				refuse("no length of a prefix", old, top, j, n, proof)
			}
			for _, size := range []int{0, m - 1, -1, math.MinInt} {
				refuse("too short a list", old, top, m, size, proof)
			}
		}
	}
	empty := of(1)
	for _, x := range [][2]int{{0, 0}, {0, 1}, {0, 5}, {-1, -1}, {-2, 0}, {1, 0}} {
		if digest.VerifyPrefix(empty, empty, x[0], x[1], nil) {
			t.Errorf("P2.7: prefix %d of %d is accepted", x[0], x[1])
		}
	}
	if digest.VerifyPrefix(api.Digest{}, api.Digest{}, 1, 2, nil) {
		t.Error("P2.7: a prefix is accepted without a proof")
	}
	if !digest.VerifyPrefix(empty, empty, 1, 1, nil) || digest.VerifyPrefix(empty, api.Digest{}, 1, 1, nil) {
		t.Error("P2.7: a list is the prefix of itself if and only if the roots are the same")
	}
}

// large returns lengths of lists that no memory holds, and of short ones.
func large(r *rand.Rand) int {
	switch r.Intn(4) {
	case 0:
		return math.MaxInt - r.Intn(3)
	case 1:
		return 1<<(1+r.Intn(62)) + r.Intn(5) - 2
	case 2:
		return r.Int() >> r.Intn(63)
	}
	return r.Intn(40) - 2
}

// TestVerifyAny checks that any proof of the right length is accepted for the root that it yields, and for no other one.
func TestVerifyAny(t *testing.T) {
	r := rand.New(rand.NewSource(2))
	for range 20000 {
		n := large(r)
		i := []int{0, n - 1, n / 2, r.Intn(max(n, 1)), large(r), -1}[r.Intn(6)]
		size := r.Intn(66)
		if i >= 0 && i < n && r.Intn(8) > 0 {
			size = max(0, len(siblings(n, i))+r.Intn(3)-1)
		}
		proof := list(size)
		d := api.Digest{byte(r.Int())}
		top, ok := climb(n, i, d, proof)
		if digest.Verify(top, n, i, d, proof) != ok {
			t.Fatalf("P2.5: element %d of %d with a proof of %d: accepted: %v", i, n, size, !ok)
		}
		if digest.Verify(flipped(top, r.Intn(128)), n, i, d, proof) {
			t.Fatalf("P2.5: element %d of %d with a proof of %d: accepted for a wrong root", i, n, size)
		}
	}
}

// TestVerifyPrefixAny does the same for prefix proofs.
func TestVerifyPrefixAny(t *testing.T) {
	r := rand.New(rand.NewSource(3))
	for range 20000 {
		n := large(r)
		m := []int{1, n - 1, n, n / 2, 1 + r.Intn(max(n, 1)), large(r), 0}[r.Intn(7)]
		size := r.Intn(66)
		if m >= 1 && m <= n && r.Intn(8) > 0 {
			_, path := prefixPath(n, m)
			size = max(0, len(path)+r.Intn(4)-1)
		}
		proof := list(size)
		given := api.Digest{byte(r.Int()), 1}
		old, top, ok := pair(given, m, n, proof)
		if digest.VerifyPrefix(old, top, m, n, proof) != ok {
			t.Fatalf("P2.7: prefix %d of %d with a proof of %d: accepted: %v", m, n, size, !ok)
		}
		if !ok && digest.VerifyPrefix(api.Digest{}, api.Digest{}, m, n, proof) {
			t.Fatalf("P2.7: prefix %d of %d with a proof of %d: accepted without roots", m, n, size)
		}
		bit := r.Intn(128)
		if digest.VerifyPrefix(flipped(old, bit), top, m, n, proof) || digest.VerifyPrefix(old, flipped(top, bit), m, n, proof) {
			t.Fatalf("P2.7: prefix %d of %d with a proof of %d: accepted for a wrong root", m, n, size)
		}
	}
}

func TestNoClash(t *testing.T) {
	none := func(what string, n, i int, a, b api.Digest, p, q []api.Digest) {
		t.Helper()
		if x, y, ok := digest.Clash(n, i, a, b, p, q); ok || x != nil || y != nil {
			t.Errorf("P2.8: %s: Clash(%d, %d) = %x, %x, %v", what, n, i, x, y, ok)
		}
	}
	extra := api.Digest{7}
	for _, n := range sizes() {
		l := list(n)
		for i, d := range l {
			p := roots(l, siblings(n, i))
			none("the same proof", n, i, d, d, p, slices.Clone(p))
			none("another leaf", n, i, d, extra, p, p)
			none("another leaf", n, i, extra, d, p, p)
			for j := range p {
				none("another proof", n, i, d, d, p, altered(p, j, i%128))
				none("shorter proofs", n, i, d, extra, p[:j], p[:j])
				none("a shorter proof", n, i, d, d, p[:j], p)
				none("a shorter proof", n, i, d, d, p, p[:j])
			}
			longer := append(slices.Clone(p), extra)
			none("longer proofs", n, i, d, d, longer, longer)
			none("a longer proof", n, i, d, d, p, longer)
			none("a longer proof", n, i, d, d, longer, p)
			for _, j := range []int{-1, n, math.MinInt, math.MaxInt} {
				none("no index", n, j, d, extra, p, p)
			}
		}
	}
	for _, n := range []int{0, -1, math.MinInt} {
		none("no list", n, 0, extra, api.Digest{}, nil, nil)
	}
	none("the example", 1, 0, extra, extra, nil, nil)
}

// Results are new memory, and arguments are not changed.
func TestMemory(t *testing.T) {
	l := list(21)
	before := slices.Clone(l)
	check := func(what string) {
		t.Helper()
		if !slices.Equal(l, before) {
			t.Fatalf("%s changes its argument", what)
		}
	}
	digest.Root(l[:13])
	check("Root")
	for i := range l {
		p, _ := digest.Prove(l, i)
		check("Prove")
		kept := slices.Clone(p)
		digest.Verify(root(l), len(l), i, l[i], p)
		digest.Clash(len(l), i, l[i], l[0], p, p)
		q, _ := digest.ProvePrefix(l, i+1)
		digest.VerifyPrefix(root(l[:i+1]), root(l), i+1, len(l), q)
		if !slices.Equal(p, kept) {
			t.Fatal("a proof is changed")
		}
		clear(p[:cap(p)])
		clear(q[:cap(q)])
		check("a change of a result")
	}
}

// P1 of the document: no call panics, whatever it is given.
func FuzzProofs(f *testing.F) {
	f.Add(3, 1, 2, []byte("0123456789abcdef0123456789abcdef"))
	f.Add(math.MaxInt, math.MaxInt-1, math.MinInt, []byte{})
	f.Add(math.MinInt, 0, -1, []byte{1})
	f.Add(0, 0, 0, []byte{})
	f.Fuzz(func(t *testing.T, n, i, m int, b []byte) {
		l := make([]api.Digest, len(b)/api.DigestSize)
		for j := range l {
			l[j] = api.Digest(b[j*api.DigestSize:][:api.DigestSize])
		}
		d := digest.Of(n, string(b))
		top, ok := climb(n, i, d, l)
		if digest.Verify(top, n, i, d, l) != ok {
			t.Errorf("P2.5: Verify(%d, %d, %d digests) = %v", n, i, len(l), !ok)
		}
		old, top, ok := pair(d, m, n, l)
		if digest.VerifyPrefix(old, top, m, n, l) != ok {
			t.Errorf("P2.7: VerifyPrefix(%d, %d, %d digests) = %v", m, n, len(l), !ok)
		}
		if _, _, ok := digest.Clash(n, i, d, digest.Root(l), l, l); ok {
			t.Error("P2.8: a clash of SHA-256")
		}
		if _, e := digest.Prove(l, i); (e == api.OK) != (i >= 0 && i < len(l)) {
			t.Errorf("P2.4: Prove(%d digests, %d): error %d", len(l), i, e)
		}
		if _, e := digest.ProvePrefix(l, m); (e == api.OK) != (m >= 1 && m <= len(l)) {
			t.Errorf("P2.6: ProvePrefix(%d digests, %d): error %d", len(l), m, e)
		}
	})
}
