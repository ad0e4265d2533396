package digest

import (
	"bytes"
	"math"
	"math/rand"
	"slices"
	"testing"

	"solvent/api"
)

// weak is a hash function with only eight values, so that the tests find collisions.
func weak(input []byte) api.Digest {
	d := cut(input)
	return api.Digest{d[0] % 8}
}

// chain returns the hash inputs of a proof, the leaf's first; left tells which of its elements are left parts.
func chain(leaf api.Digest, proof []api.Digest, left []bool) [][]byte {
	size := []byte{129, 16}
	b := slices.Concat([]byte{1}, size, leaf[:])
	l := [][]byte{b}
	for j, d := range proof {
		v := weak(b)
		if left[j] {
			b = slices.Concat([]byte{2}, size, d[:], size, v[:])
		} else {
			b = slices.Concat([]byte{2}, size, v[:], size, d[:])
		}
		l = append(l, b)
	}
	return l
}

// route is an index of a list of n elements; left tells which siblings of its path are left parts, the nearest one first.
type route struct {
	n, i int
	left []bool
}

func routes() []route {
	return []route{
		{1, 0, nil},
		{2, 0, []bool{false}}, {2, 1, []bool{true}},
		{3, 0, []bool{false, false}}, {3, 1, []bool{true, false}}, {3, 2, []bool{true}},
		{5, 2, []bool{false, true, false}}, {5, 4, []bool{true}},
		{7, 4, []bool{false, false, true}}, {7, 6, []bool{true, true}},
		{8, 5, []bool{true, false, true}},
		{math.MaxInt, 1 << 62, slices.Concat(make([]bool, 62), []bool{true})},
	}
}

// wanted returns what P2.8 asks for, if the proofs have the right lengths.
func wanted(r route, a, b api.Digest, p, q []api.Digest) ([]byte, []byte, bool) {
	first, second := chain(a, p, r.left), chain(b, q, r.left)
	last := len(first) - 1
	if weak(first[last]) != weak(second[last]) || a == b && slices.Equal(p, q) {
		return nil, nil, false
	}
	for bytes.Equal(first[last], second[last]) {
		last--
	}
	return first[last], second[last], true
}

func TestClash(t *testing.T) {
	rnd := rand.New(rand.NewSource(1))
	for _, r := range routes() {
		steps := map[int]int{} // how often a clash was found by a step that hashes a leaf (0) or two parts (1)
		for range 5000 {
			a, b := api.Digest{byte(rnd.Intn(256))}, api.Digest{byte(rnd.Intn(256))}
			if rnd.Intn(2) == 0 {
				b = a
			}
			p := make([]api.Digest, len(r.left))
			for j := range p {
				rnd.Read(p[j][:])
			}
			q := slices.Clone(p)
			for j := range q {
				if rnd.Intn(len(q)+1) == 0 {
					rnd.Read(q[j][:])
				}
			}
			x, y, ok := clash(r.n, r.i, a, b, p, q, weak)
			u, v, want := wanted(r, a, b, p, q)
			if ok != want || !bytes.Equal(x, u) || !bytes.Equal(y, v) {
				t.Fatalf("P2.8: clash of %v, %x, %x, %x, %x = %x, %x, %v, want %x, %x, %v", r, a, b, p, q, x, y, ok, u, v, want)
			}
			if ok && (bytes.Equal(x, y) || weak(x) != weak(y)) {
				t.Fatalf("P2.9: %x and %x are no collision", x, y)
			}
			if ok {
				steps[int(x[0])-1]++
			}
			if !ok && (x != nil || y != nil) {
				t.Fatalf("P2.8: no clash, but %x, %x", x, y)
			}
		}
		if steps[0]+steps[1] < 100 || len(r.left) == 1 && steps[0] == 0 || len(r.left) > 0 && steps[1] == 0 {
			t.Errorf("%v: too few clashes are tested: %v", r, steps)
		}
	}
}

func TestClashLengths(t *testing.T) {
	constant := func([]byte) api.Digest { return api.Digest{} }
	a, b := api.Digest{1}, api.Digest{2}
	for _, r := range routes() {
		size := len(r.left)
		for n := range size + 3 {
			for m := range size + 3 {
				x, y, ok := clash(r.n, r.i, a, b, make([]api.Digest, n), make([]api.Digest, m), constant)
				if ok != (n == size && m == size) {
					t.Errorf("P2.8: clash of %v with proofs of %d and %d elements: %v", r, n, m, ok)
				}
				if !ok && (x != nil || y != nil) {
					t.Errorf("P2.8: no clash, but %x, %x", x, y)
				}
			}
		}
		proof := make([]api.Digest, size)
		for _, i := range []int{-1, r.n, math.MinInt, math.MaxInt} {
			if _, _, ok := clash(r.n, i, a, b, proof, proof, constant); ok {
				t.Errorf("P2.8: a clash at index %d of %d", i, r.n)
			}
		}
	}
	for _, n := range []int{0, -1, math.MinInt} {
		if _, _, ok := clash(n, 0, a, b, nil, nil, constant); ok {
			t.Errorf("P2.8: a clash in a list of %d elements", n)
		}
	}
}

// The inputs that clash compares are those whose digests Verify computes.
func TestInputs(t *testing.T) {
	l := []api.Digest{{1}, {2}, {3}}
	if got := message(api.TagLeaf, "ab", ""); !bytes.Equal(got, []byte{1, 129, 2, 'a', 'b', 128}) {
		t.Errorf("P2.2: the hash input is %v", got)
	}
	p, _ := Prove(l, 1)
	var inputs [][]byte
	got, ok := climb(3, 1, l[1], p, func(input []byte) api.Digest {
		inputs = append(inputs, input)
		return cut(input)
	})
	one, two, three := string(l[0][:]), string(l[1][:]), string(l[2][:])
	x, y, z := Of(1, one), Of(1, two), Of(1, three)
	xy := Of(2, string(x[:]), string(y[:]))
	want := [][]byte{message(1, two), message(2, string(x[:]), string(y[:])), message(2, string(xy[:]), string(z[:]))}
	if !ok || got != Root(l) || !slices.EqualFunc(inputs, want, bytes.Equal) {
		t.Errorf("P2.8: the hash inputs are %x, want %x", inputs, want)
	}
}
