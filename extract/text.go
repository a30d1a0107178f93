package extract

import (
	"bytes"
	"math/bits"

	"escritoire/api"
)

// The first bytes of texts: they keep leaves and nodes apart, so that no node's text is a leaf's, too.
const (
	leafByte = 0
	nodeByte = 1
)

// text is a text of its first byte and its parts.
func text(first byte, parts ...[]byte) []byte {
	out := []byte{first}
	for _, p := range parts {
		out = append(out, p...)
	}
	return out
}

// node is the text of a list whose parts have the heads a and b.
func node(a, b api.Digest) []byte {
	return text(nodeByte, a[:], b[:])
}

// text is the text of l.
func (h Hash) text(l [][]byte) []byte {
	switch len(l) {
	case 0:
		return nil
	case 1:
		return text(leafByte, l[0])
	}
	k := split(len(l))
	return node(h.head(l[:k]), h.head(l[k:]))
}

// head is the head of l.
func (h Hash) head(l [][]byte) api.Digest {
	return h.sum(h.text(l))
}

// sum is the hash of b. A hash that is handed in might write into what it gets, or keep it: it gets a copy.
func (h Hash) sum(b []byte) api.Digest {
	return h(bytes.Clone(b))
}

// split is the greatest power of 2 below n, which is at least 2.
func split(n int) int {
	return 1 << (bits.Len(uint(n-1)) - 1)
}
