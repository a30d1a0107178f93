package ranges_test

import (
	"crypto/sha256"
	"encoding/hex"
	"slices"
	"testing"

	"escritoire/api"
	"escritoire/ranges"
)

// The document's limit, in a number of the tests' own.
const mostLeaves = 1048576

// hashOfNone is the head of no leaves.
const hashOfNone = "e3b0c44298fc1c149afbf4c8996fb92427ae41e4649b934ca495991b7852b855"

// known are leaves that logs of RFC 6962 are tried with, in digits, and behind each the head that it and those ahead of it have.
var known = []struct{ leaf, head string }{
	{"", "6e340b9cffb37a989ca544e6bb780a2c78901d3fb33738768511a30617afa01d"},
	{"00", "fac54203e7cc696cf0dfcb42c92a1d9dbaf70ad9e621f4bd8d98662f00e3c125"},
	{"10", "aeb6bcfe274b70a14fb067a5e5578264db0fa9b51af5e0ba159158f329e06e77"},
	{"2021", "d37ee418976dd95753c1c73862b9398fa2a2cf9b4ff0fdfe8b30cd95209614b7"},
	{"3031", "4e3bbb1f7b478dcfe71fb631631519a3bca12c9aefca1612bfce4c13a86264d4"},
	{"40414243", "76e67dadbcdf1e10e1b74ddc608abd2f98dfb16fbce75277b5232a127f2087ef"},
	{"5051525354555657", "ddb89be403809e325750d3d263cd78929c2942b7942a34b77e122c9594a74c8c"},
	{"606162636465666768696a6b6c6d6e6f", "5dc9da79a70659a9ad559cb701ded9a2ab9d823aad2f4960cfe370eff4604328"},
}

// anyLeaves are n hashes of a seed, which are all different.
func anyLeaves(seed uint64, n int) []api.Digest {
	out := make([]api.Digest, n)
	for i := range out {
		text := []byte("leaf ")
		for _, x := range []uint64{seed, uint64(i)} {
			for at := range 8 {
				text = append(text, byte(x>>(8*at)))
			}
		}
		out[i] = sha256.Sum256(text)
	}
	return out
}

// nodeOf is the hash of a node as the document tells it, by the library.
func nodeOf(a, b api.Digest) api.Digest {
	return sha256.Sum256(slices.Concat([]byte{1}, a[:], b[:]))
}

// headOf is the head of the leaves as RFC 6962 tells it: of both halves, the first one as long as the greatest power of 2 below all.
func headOf(leaves []api.Digest) api.Digest {
	switch len(leaves) {
	case 0:
		return sha256.Sum256(nil)
	case 1:
		return leaves[0]
	}
	k := 1
	for 2*k < len(leaves) {
		k *= 2
	}
	return nodeOf(headOf(leaves[:k]), headOf(leaves[k:]))
}

// peaksOf are the peaks of the leaves, found from the first leaf on: of the powers of 2, from the greatest one on, each that is not above what is left is a part.
func peaksOf(leaves []api.Digest) []api.Digest {
	var out []api.Digest
	for many := 2 * mostLeaves; many > 0; many /= 2 {
		if len(leaves) >= many {
			out = append(out, headOf(leaves[:many]))
			leaves = leaves[many:]
		}
	}
	return out
}

// wholeOf are the heads of all whole parts that end with the last leaf, the least first: each power of 2 is tried.
func wholeOf(leaves []api.Digest) []api.Digest {
	var out []api.Digest
	for many := 1; many <= len(leaves); many *= 2 {
		if len(leaves)%many == 0 {
			out = append(out, headOf(leaves[len(leaves)-many:]))
		}
	}
	return out
}

// rootOf is the head that peaks have: the last one, and from the one ahead of it on, the node of each and what there was.
func rootOf(peaks []api.Digest) api.Digest {
	switch len(peaks) {
	case 0:
		return sha256.Sum256(nil)
	case 1:
		return peaks[0]
	}
	return nodeOf(peaks[0], rootOf(peaks[1:]))
}

// addedOf are the heads that a leaf behind that many others ends, and the peaks that there are then: with the last peaks it is made one, as long as the part of both is whole.
func addedOf(peaks []api.Digest, size uint64, leaf api.Digest) (heads, anew []api.Digest) {
	heads = []api.Digest{leaf}
	for many := uint64(2); (size+1)%many == 0; many *= 2 {
		last := len(peaks) - 1
		leaf = nodeOf(peaks[last], leaf)
		heads = append(heads, leaf)
		peaks = peaks[:last]
	}
	return heads, append(slices.Clone(peaks), leaf)
}

// ones are how many peaks a size has: its binary digits that are 1 are counted one by one.
func ones(size uint64) int {
	n := 0
	for ; size > 0; size /= 2 {
		n += int(size % 2)
	}
	return n
}

// sizes are how many leaves there may be: all that are few, and the neighbours of greater powers of 2 and of their sums.
func sizes() []uint64 {
	var out []uint64
	for n := range uint64(70) {
		out = append(out, n)
	}
	for many := uint64(128); many <= mostLeaves; many *= 2 {
		for _, n := range []uint64{many - 2, many - 1, many, many + 1, many + 3, many + many/2 - 1, many + many/2, many + many/4 + 1} {
			if n <= mostLeaves {
				out = append(out, n)
			}
		}
	}
	return out
}

// added is a range to which the leaves were added.
func added(t *testing.T, leaves []api.Digest) *ranges.Range {
	t.Helper()
	r := ranges.New()
	for _, x := range leaves {
		if _, e := r.Add(x); e != api.OK {
			t.Fatalf("Add behind %d leaves: error %d", r.Size(), e)
		}
	}
	return r
}

// from is the range that From makes, which must be OK.
func from(t *testing.T, peaks []api.Digest, size uint64) *ranges.Range {
	t.Helper()
	r, e := ranges.From(peaks, size)
	if e != api.OK || r == nil {
		t.Fatalf("From(%d peaks, %d): %v, error %d", len(peaks), size, r, e)
	}
	return r
}

// wantRange wants a range to have so many leaves, these peaks, and their head.
func wantRange(t *testing.T, what string, r *ranges.Range, size uint64, peaks []api.Digest) {
	t.Helper()
	if got := r.Size(); got != size {
		t.Fatalf("%s: Size tells %d, want %d", what, got, size)
	}
	if got := r.Peaks(); !slices.Equal(got, peaks) {
		t.Fatalf("%s, of %d leaves: Peaks tells %x, want %x", what, size, got, peaks)
	}
	if got, want := r.Root(), rootOf(peaks); got != want {
		t.Fatalf("%s, of %d leaves: Root tells %x, want %x", what, size, got, want)
	}
}

// wantOf wants a range to be that of the leaves.
func wantOf(t *testing.T, what string, r *ranges.Range, leaves []api.Digest) {
	t.Helper()
	wantRange(t, what, r, uint64(len(leaves)), peaksOf(leaves))
	if got, want := r.Root(), headOf(leaves); got != want {
		t.Fatalf("%s, of %d leaves: Root tells %x, want %x", what, len(leaves), got, want)
	}
}

// wantAdd adds a leaf, and wants these heads.
func wantAdd(t *testing.T, what string, r *ranges.Range, leaf api.Digest, want []api.Digest) {
	t.Helper()
	if got, e := r.Add(leaf); e != api.OK || !slices.Equal(got, want) {
		t.Fatalf("%s: Add, by which there are %d leaves, tells %x, error %d, want %x", what, r.Size(), got, e, want)
	}
}

// wantFull wants Add to tell ErrFull alone.
func wantFull(t *testing.T, what string, r *ranges.Range) {
	t.Helper()
	if got, e := r.Add(anyLeaves(404, 1)[0]); e != api.ErrFull || len(got) != 0 {
		t.Fatalf("%s, of %d leaves: Add tells %d heads, error %d, want ErrFull alone", what, r.Size(), len(got), e)
	}
}

func wantNoFrom(t *testing.T, peaks []api.Digest, size uint64) {
	t.Helper()
	if r, e := ranges.From(peaks, size); e != api.ErrArg || r != nil {
		t.Errorf("From(%d peaks, %d): %v, error %d, want ErrArg alone", len(peaks), size, r, e)
	}
}

// wantNone wants what the chapter says of a range that there is not.
func wantNone(t *testing.T, what string, r *ranges.Range) {
	t.Helper()
	for range 2 { // as Add must not make it one
		if got, e := r.Add(anyLeaves(405, 1)[0]); e != api.ErrNil || len(got) != 0 {
			t.Errorf("%s: Add tells %x, error %d, want ErrNil alone", what, got, e)
		}
		if n, peaks := r.Size(), r.Peaks(); n != 0 || len(peaks) != 0 {
			t.Errorf("%s: Size tells %d, Peaks %x", what, n, peaks)
		}
		root := r.Root()
		if hex.EncodeToString(root[:]) != hashOfNone {
			t.Errorf("%s: Root tells %x", what, root)
		}
		if c := r.Copy(); c != nil {
			t.Errorf("%s: Copy tells %v, want nil", what, c)
		}
	}
}

// inRoom is hashes with room behind them, which has others of its own.
func inRoom(l []api.Digest) []api.Digest {
	out := append(slices.Clone(l), anyLeaves(99, 9)...)
	return out[:len(l)]
}

// spoil changes each hash, up to where the room ends: whoever shares memory with l is found by that.
func spoil(l []api.Digest) {
	l = l[:cap(l)]
	for i := range l {
		l[i][0] ^= 0xff
		l[i][api.Hash-1] ^= 0xff
	}
}

// hashesOf are bytes cut into hashes; what is left over goes.
func hashesOf(b []byte) []api.Digest {
	var out []api.Digest
	for len(b) >= api.Hash {
		out = append(out, api.Digest(b))
		b = b[api.Hash:]
	}
	return out
}
