package merkle_test

import (
	"crypto/sha256"
	"encoding/hex"
	"slices"
	"testing"

	"escritoire/api"
	"escritoire/merkle"
)

// hashOfNone is the head of no leaves.
const hashOfNone = "e3b0c44298fc1c149afbf4c8996fb92427ae41e4649b934ca495991b7852b855"

// known are leaves that logs of RFC 6962 are tried with, in digits, and behind each the head that it and those ahead of it have.
var known = []struct{ leaf, head string }{
	{"", "6e340b9cffb37a989ca544e6bb780a2c78901d3fb33738768511a30617afa01d"},
	{"00", "fac54203e7cc696cf0dfcb42c92a1d9dbaf70ad9e621f4bd8d98662f00e3c125"},
	{"10", "aeb6bcfe274b70a14fb067a5e5578264db0fa9b51af5e0ba159158f329e06e77"},
	{"2021", "d37ee418976dd95753c1c73862b9398fa2a2cf9b4ff0fdfe8b30cd95209614b7"},
	{"3031", "4e3bbb1f7b478dcfe71fb631631519a3bca12c9aefca1612bfce4c13a86264d4"},
	{"40414243", "76e67dadbcdf1e10e1b74ddc608abd2f98dfb16fbce75277b5232a127f2087ef"},
	{"5051525354555657", "ddb89be403809e325750d3d263cd78929c2942b7942a34b77e122c9594a74c8c"},
	{"606162636465666768696a6b6c6d6e6f", "5dc9da79a70659a9ad559cb701ded9a2ab9d823aad2f4960cfe370eff4604328"},
}

// knownLeaves are the bytes of the first n of known.
func knownLeaves(t *testing.T, n int) [][]byte {
	t.Helper()
	var out [][]byte
	for _, x := range known[:n] {
		b, err := hex.DecodeString(x.leaf)
		if err != nil {
			t.Fatal(err)
		}
		out = append(out, b)
	}
	return out
}

// anyBytes are n bytes of a seed, by a rule of their own.
func anyBytes(seed uint64, n int) []byte {
	out := make([]byte, n)
	for i := range out {
		seed = seed*6364136223846793005 + 1442695040888963407
		out[i] = byte(seed >> 56)
	}
	return out
}

// anyLeaves are n hashes of a seed, which are all different.
func anyLeaves(seed uint64, n int) []api.Digest {
	out := make([]api.Digest, n)
	for i := range out {
		out[i] = sha256.Sum256(anyBytes(seed<<32+uint64(i), 16))
	}
	return out
}

// leafOf is the hash of a leaf as the document tells it, by the library.
func leafOf(b []byte) api.Digest {
	return sha256.Sum256(slices.Concat([]byte{0}, b))
}

// nodeOf is the hash of a node as the document tells it, by the library.
func nodeOf(a, b api.Digest) api.Digest {
	return sha256.Sum256(slices.Concat([]byte{1}, a[:], b[:]))
}

// headOf is the head of the leaves, found from the first leaf on: of the heads of whole parts that stand one behind the other, two that are of one length are made one, and what there is at the end is made one from the last on.
func headOf(leaves []api.Digest) api.Digest {
	var parts []api.Digest
	for i, x := range leaves {
		parts = append(parts, x)
		for many := i + 1; many%2 == 0; many /= 2 {
			parts = joined(parts)
		}
	}
	if len(parts) == 0 {
		return sha256.Sum256(nil)
	}
	for len(parts) > 1 {
		parts = joined(parts)
	}
	return parts[0]
}

// joined are the parts, of which the last two are made one.
func joined(parts []api.Digest) []api.Digest {
	n := len(parts)
	return append(parts[:n-2], nodeOf(parts[n-2], parts[n-1]))
}

// levelsOf are the levels of the leaves, each head of them found by itself.
func levelsOf(leaves []api.Digest) [][]api.Digest {
	var out [][]api.Digest
	for many := 1; many <= len(leaves); many *= 2 {
		var level []api.Digest
		for at := 0; at+many <= len(leaves); at += many {
			level = append(level, headOf(leaves[at:at+many]))
		}
		out = append(out, level)
	}
	return out
}

// sizes are how many leaves there may be: all that are few, and the neighbours of greater powers of 2.
func sizes() []int {
	var out []int
	for n := range 131 {
		out = append(out, n)
	}
	for n := 256; n <= 4096; n *= 2 {
		out = append(out, n-1, n, n+1, n+n/2, n+n/2+1)
	}
	return out
}

func wantHash(t *testing.T, what string, got, want api.Digest) {
	t.Helper()
	if got != want {
		t.Errorf("%s: got %x, want %x", what, got, want)
	}
}

func wantText(t *testing.T, what string, got api.Digest, want string) {
	t.Helper()
	if hex.EncodeToString(got[:]) != want {
		t.Errorf("%s: got %x, want %s", what, got, want)
	}
}

func wantRoot(t *testing.T, leaves []api.Digest) {
	t.Helper()
	if got, want := merkle.Root(leaves), headOf(leaves); got != want {
		t.Errorf("Root of %d leaves: got %x, want %x", len(leaves), got, want)
	}
}

func wantSub(t *testing.T, leaves []api.Digest, from, to int) {
	t.Helper()
	got, e := merkle.Sub(leaves, from, to)
	if want := headOf(leaves[from:to]); e != api.OK || got != want {
		t.Errorf("Sub of %d leaves, from %d to %d: got %x, error %d, want %x", len(leaves), from, to, got, e, want)
	}
}

func wantNoSub(t *testing.T, leaves []api.Digest, from, to int) {
	t.Helper()
	if got, e := merkle.Sub(leaves, from, to); e != api.ErrArg || got != (api.Digest{}) {
		t.Errorf("Sub of %d leaves, from %d to %d: got %x, error %d, want ErrArg alone", len(leaves), from, to, got, e)
	}
}

func wantLevels(t *testing.T, leaves []api.Digest, want [][]api.Digest) {
	t.Helper()
	got := merkle.Levels(leaves)
	if len(got) != len(want) {
		t.Fatalf("Levels of %d leaves: %d levels, want %d", len(leaves), len(got), len(want))
	}
	for i := range want {
		if !slices.Equal(got[i], want[i]) {
			t.Errorf("Levels of %d leaves: level %d has %d hashes, want %d, or others", len(leaves), i, len(got[i]), len(want[i]))
		}
	}
}

// inRoom is leaves with room behind them, which has hashes of its own.
func inRoom(leaves []api.Digest) []api.Digest {
	out := append(slices.Clone(leaves), anyLeaves(99, 9)...)
	return out[:len(leaves)]
}

// spoil changes each hash, up to where its room ends: whoever shares memory with l is found by that.
func spoil(l []api.Digest) {
	l = l[:cap(l)]
	for i := range l {
		l[i][0] ^= 0xff
		l[i][api.Hash-1] ^= 0xff
	}
}
