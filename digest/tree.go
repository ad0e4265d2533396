package digest

import (
	"bytes"
	"math/bits"

	"solvent/api"
)

// split returns the length of the first part of a list of n > 1 elements: the greatest power of 2 that is less than n.
func split(n int) int { return 1 << (bits.Len(uint(n-1)) - 1) }

// Root returns the root of the Merkle tree of a list.
func Root(l []api.Digest) api.Digest {
	switch len(l) {
	case 0:
		return Of(api.TagLeaf)
	case 1:
		return cut(leafMessage(l[0]))
	}
	k := split(len(l))
	return cut(nodeMessage(Root(l[:k]), Root(l[k:])))
}

// walk passes the siblings of the path of index i in the list from low to high-1 to step, the one nearest to the element
// first: the bounds of the sibling, and whether it precedes the path's part.
func walk(low, high, i int, step func(low, high int, before bool)) {
	if high-low == 1 {
		return
	}
	mid := low + split(high-low)
	if i < mid {
		walk(low, mid, i, step)
		step(mid, high, false)
	} else {
		walk(mid, high, i, step)
		step(low, mid, true)
	}
}

// Prove returns a proof for the element at an index.
func Prove(l []api.Digest, i int) ([]api.Digest, api.Errno) {
	if i < 0 || i >= len(l) {
		return nil, api.ErrNone
	}
	proof := []api.Digest{}
	walk(0, len(l), i, func(low, high int, _ bool) { proof = append(proof, Root(l[low:high])) })
	return proof, api.OK
}

// Verify checks a proof for an element.
func Verify(root api.Digest, n, i int, leaf api.Digest, proof []api.Digest) bool {
	got, ok := climb(n, i, leaf, proof, cut)
	return ok && got == root
}

// climb returns the root that a proof for an element yields. It reports false if i is not an index of a list of n
// elements, or if the proof does not have one element for each sibling. It passes the hash inputs to hash, the leaf's
// first.
func climb(n, i int, leaf api.Digest, proof []api.Digest, hash func(input []byte) api.Digest) (api.Digest, bool) {
	if i < 0 || i >= n {
		return api.Digest{}, false
	}
	var left []bool
	walk(0, n, i, func(_, _ int, before bool) { left = append(left, before) })
	if len(left) != len(proof) {
		return api.Digest{}, false
	}
	root := hash(leafMessage(leaf))
	for j, d := range proof {
		if left[j] {
			root = hash(nodeMessage(d, root))
		} else {
			root = hash(nodeMessage(root, d))
		}
	}
	return root, true
}

// Clash extracts a hash collision from two proofs.
func Clash(n, i int, a, b api.Digest, p, q []api.Digest) ([]byte, []byte, bool) {
	return clash(n, i, a, b, p, q, cut)
}

// clash is Clash for any hash function: nobody knows a collision of cut, so the tests need a weaker one.
func clash(n, i int, a, b api.Digest, p, q []api.Digest, hash func(input []byte) api.Digest) ([]byte, []byte, bool) {
	var first, second [][]byte
	x, ok := climb(n, i, a, p, func(input []byte) api.Digest {
		first = append(first, input)
		return hash(input)
	})
	y, fits := climb(n, i, b, q, func(input []byte) api.Digest {
		second = append(second, input)
		return hash(input)
	})
	if !ok || !fits || x != y {
		return nil, nil, false
	}
	for step := len(first) - 1; step >= 0; step-- {
		if !bytes.Equal(first[step], second[step]) {
			return first[step], second[step], true
		}
	}
	return nil, nil, false // no input differs, so neither the leaves nor the proofs do
}

// ProvePrefix returns a proof for the first m elements of a list.
func ProvePrefix(l []api.Digest, m int) ([]api.Digest, api.Errno) {
	if m < 1 || m > len(l) {
		return nil, api.ErrNone
	}
	return sub(l, m, true), api.OK
}

// sub returns the proof for the first m elements of a part of a list; whole tells that these are the whole prefix, whose
// root the proof need not contain because it is known.
func sub(l []api.Digest, m int, whole bool) []api.Digest {
	if m == len(l) {
		if whole {
			return []api.Digest{}
		}
		return []api.Digest{Root(l)}
	}
	k := split(len(l))
	if m <= k {
		return append(sub(l[:k], m, whole), Root(l[k:]))
	}
	return append(sub(l[k:], m-k, false), Root(l[:k]))
}

// VerifyPrefix checks a prefix proof.
func VerifyPrefix(old, root api.Digest, m, n int, proof []api.Digest) bool {
	if m < 1 || m > n {
		return false
	}
	x, y, ok := pair(old, m, n, true, proof)
	return ok && x == old && y == root
}

// pair returns the roots of the first m elements and of all n elements of a part of a list, as the part's proof shows
// them. It reports false if the proof does not have as many elements as that of sub.
func pair(old api.Digest, m, n int, whole bool, proof []api.Digest) (x, y api.Digest, ok bool) {
	last := len(proof) - 1
	switch {
	case m == n && whole:
		return old, old, last < 0
	case last < 0:
		return x, y, false
	case m == n:
		return proof[0], proof[0], last == 0
	}
	e, rest := proof[last], proof[:last]
	k := split(n)
	if m <= k {
		x, y, ok = pair(old, m, k, whole, rest)
		return x, cut(nodeMessage(y, e)), ok
	}
	x, y, ok = pair(old, m-k, n-k, false, rest)
	return cut(nodeMessage(e, x)), cut(nodeMessage(e, y)), ok
}
