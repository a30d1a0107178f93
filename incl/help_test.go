package incl_test

import (
	"cmp"
	"encoding/binary"
	"encoding/hex"
	"math"
	"slices"
	"testing"

	"escritoire/api"
	"escritoire/incl"
	"escritoire/merkle"
)

// The document's limits, in numbers of the tests' own.
const (
	mostLeaves = 1048576
	mostHashes = 20
)

// knownLeaves are leaves that logs of RFC 6962 are tried with, in digits.
var knownLeaves = []string{"", "00", "10", "2021", "3031", "40414243", "5051525354555657", "606162636465666768696a6b6c6d6e6f"}

// known are paths in the trees of the first of them, with the trees' heads, in digits.
var known = []struct {
	index, size uint64
	head        string
	path        []string
}{
	{0, 1, "6e340b9cffb37a989ca544e6bb780a2c78901d3fb33738768511a30617afa01d", nil},
	{2, 3, "aeb6bcfe274b70a14fb067a5e5578264db0fa9b51af5e0ba159158f329e06e77", []string{
		"fac54203e7cc696cf0dfcb42c92a1d9dbaf70ad9e621f4bd8d98662f00e3c125"}},
	{1, 5, "4e3bbb1f7b478dcfe71fb631631519a3bca12c9aefca1612bfce4c13a86264d4", []string{
		"6e340b9cffb37a989ca544e6bb780a2c78901d3fb33738768511a30617afa01d",
		"5f083f0a1a33ca076a95279832580db3e0ef4584bdff1f54c8a360f50de3031e",
		"bc1a0643b12e4d2d7c77918f44e0f4f79a838b6cf9ec5b5c283e1f4d88599e6b"}},
	{0, 8, "5dc9da79a70659a9ad559cb701ded9a2ab9d823aad2f4960cfe370eff4604328", []string{
		"96a296d224f285c67bee93c30f8a309157f0daa35dc5b87e410b78630a09cfc7",
		"5f083f0a1a33ca076a95279832580db3e0ef4584bdff1f54c8a360f50de3031e",
		"6b47aaf29ee3c2af9af889bc1fb9254dabd31177f16232dd6aab035ca39bf6e4"}},
	{5, 8, "5dc9da79a70659a9ad559cb701ded9a2ab9d823aad2f4960cfe370eff4604328", []string{
		"bc1a0643b12e4d2d7c77918f44e0f4f79a838b6cf9ec5b5c283e1f4d88599e6b",
		"ca854ea128ed050b41b35ffc1b87b8eb2bde461e9e3b5596ece6b9d5975a0ae0",
		"d37ee418976dd95753c1c73862b9398fa2a2cf9b4ff0fdfe8b30cd95209614b7"}},
}

// place is where a leaf stands in a tree of a size, or what is taken for that.
type place struct{ index, size uint64 }

// small are all places in trees up to a size.
func small(most uint64) []place {
	var out []place
	for size := uint64(1); size <= most; size++ {
		for index := range size {
			out = append(out, place{index, size})
		}
	}
	return out
}

// great are some places in trees up to a size: of the neighbours of powers of 2, and of sums of them, the first and the last leaves, those about powers of 2, and some of a rule.
func great(most uint64) []place {
	var out []place
	for many := uint64(128); many <= most; many *= 2 {
		for _, size := range []uint64{many - 1, many, many + 1, many + many/2 - 1, many + many/2, many + many/4 + 1, many + many*3/7} {
			indices := []uint64{0, 1, 2, size - 3, size - 2, size - 1, size / 3, size / 5 * 4}
			for power := uint64(4); power < size; power *= 2 {
				indices = append(indices, power-1, power, size-power)
			}
			for _, index := range indices {
				if size <= most {
					out = append(out, place{index, size})
				}
			}
		}
	}
	return out
}

// bad are places that may not be.
func bad() []place {
	far := []uint64{mostLeaves + 1, mostLeaves + 2, 2*mostLeaves - 1, 2 * mostLeaves, 1 << 31, 1<<32 - 1, 1 << 32, 1<<32 + 1, 1<<32 + 7, 1 << 53, 1<<63 - 1, 1 << 63, 1<<63 + 1, math.MaxUint64 - 1, math.MaxUint64}
	var out []place
	for _, size := range far {
		for _, index := range append([]uint64{0, 1, 6, mostLeaves - 1, mostLeaves, size / 2, size - 1}, far...) {
			out = append(out, place{index, size})
		}
	}
	for _, size := range []uint64{0, 1, 2, 3, 4, 7, 8, 100, mostLeaves - 1, mostLeaves} {
		for _, index := range append([]uint64{size, size + 1, 2 * size, 2*size + 1, mostLeaves}, far...) {
			out = append(out, place{index, size})
		}
	}
	return out
}

// anyHashes are n hashes of a seed, which are all different.
func anyHashes(seed uint64, n int) []api.Digest {
	out := make([]api.Digest, n)
	for i := range out {
		text := binary.BigEndian.AppendUint64([]byte("any"), seed)
		out[i] = merkle.Leaf(binary.BigEndian.AppendUint64(text, uint64(i)))
	}
	return out
}

// rangesOf are the ranges of a path, found from the leaf upwards: of each level what is beside the node that has the leaf, as far as there are leaves.
func rangesOf(p place) []incl.Range {
	var out []incl.Range
	for many := uint64(1); many < p.size; many *= 2 {
		if from := (p.index/many ^ 1) * many; from < p.size {
			out = append(out, incl.Range{From: from, To: min(from+many, p.size)})
		}
	}
	return out
}

// pathOf is the path, the head of each range found by itself.
func pathOf(leaves []api.Digest, index uint64) []api.Digest {
	var out []api.Digest
	for _, r := range rangesOf(place{index, uint64(len(leaves))}) {
		out = append(out, merkle.Root(leaves[r.From:r.To]))
	}
	return out
}

// headOf is what a path tells, and whether it has as many hashes as it must have: RFC 9162's way (2.1.3.2), which goes by the digits of the index and of the last leaf's.
func headOf(leaf api.Digest, p place, path []api.Digest) (api.Digest, bool) {
	head, at, last := leaf, p.index, p.size-1
	for _, x := range path {
		if last == 0 {
			return api.Digest{}, false
		}
		if at%2 == 1 || at == last {
			head = merkle.Node(x, head)
			for at%2 == 0 && at > 0 {
				at, last = at/2, last/2
			}
		} else {
			head = merkle.Node(head, x)
		}
		at, last = at/2, last/2
	}
	if last != 0 {
		return api.Digest{}, false
	}
	return head, true
}

// may tells whether a place may be.
func may(p place) bool {
	return p.size <= mostLeaves && p.index < p.size
}

func wantRanges(t *testing.T, p place, want []incl.Range) {
	t.Helper()
	got, e := incl.Ranges(p.index, p.size)
	if e != api.OK || !slices.Equal(got, want) {
		t.Fatalf("Ranges(%d, %d): got %v, error %d, want %v", p.index, p.size, got, e, want)
	}
}

func wantNoRanges(t *testing.T, p place) {
	t.Helper()
	if got, e := incl.Ranges(p.index, p.size); e != api.ErrArg || len(got) != 0 {
		t.Errorf("Ranges(%d, %d): got %v, error %d, want ErrArg alone", p.index, p.size, got, e)
	}
}

// wantCovers wants the leaf and the ranges to be all leaves, each of them once, and no range to be empty.
func wantCovers(t *testing.T, p place, ranges []incl.Range) {
	t.Helper()
	all := append([]incl.Range{{From: p.index, To: p.index + 1}}, ranges...)
	slices.SortFunc(all, func(a, b incl.Range) int { return cmp.Compare(a.From, b.From) })
	at := uint64(0)
	for _, r := range all {
		if r.From != at || r.To <= r.From {
			t.Fatalf("Ranges(%d, %d): with the leaf, %v stands behind the leaf ahead of %d", p.index, p.size, r, at)
		}
		at = r.To
	}
	if at != p.size {
		t.Fatalf("Ranges(%d, %d): with the leaf, they end ahead of %d", p.index, p.size, at)
	}
}

func wantPath(t *testing.T, leaves []api.Digest, index uint64, want []api.Digest) {
	t.Helper()
	got, e := incl.Path(leaves, index)
	if e != api.OK || !slices.Equal(got, want) {
		t.Fatalf("Path(%d leaves, %d): got %x, error %d, want %x", len(leaves), index, got, e, want)
	}
}

func wantNoPath(t *testing.T, leaves []api.Digest, index uint64) {
	t.Helper()
	if got, e := incl.Path(leaves, index); e != api.ErrArg || len(got) != 0 {
		t.Errorf("Path(%d leaves, %d): got %d hashes, error %d, want ErrArg alone", len(leaves), index, len(got), e)
	}
}

// wantHead wants Head to tell this head, and Verify to hold it for the only one.
func wantHead(t *testing.T, leaf api.Digest, p place, path []api.Digest, want api.Digest) {
	t.Helper()
	got, e := incl.Head(leaf, p.index, p.size, path)
	if e != api.OK || got != want {
		t.Fatalf("Head(%d, %d): got %x, error %d, want %x", p.index, p.size, got, e, want)
	}
	wantVerify(t, leaf, p, path, want, true)
	for _, other := range others(want) {
		wantVerify(t, leaf, p, path, other, false)
	}
}

// wantNoHead wants Head to tell ErrArg alone, and Verify to hold nothing for the head, the zero one that Head tells included.
func wantNoHead(t *testing.T, leaf api.Digest, p place, path []api.Digest) {
	t.Helper()
	if got, e := incl.Head(leaf, p.index, p.size, path); e != api.ErrArg || got != (api.Digest{}) {
		t.Fatalf("Head(%d, %d), %d hashes: got %x, error %d, want ErrArg alone", p.index, p.size, len(path), got, e)
	}
	for _, root := range []api.Digest{{}, leaf, merkle.Root(nil), merkle.Root(path)} {
		wantVerify(t, leaf, p, path, root, false)
	}
}

func wantVerify(t *testing.T, leaf api.Digest, p place, path []api.Digest, root api.Digest, want bool) {
	t.Helper()
	if got := incl.Verify(leaf, p.index, p.size, path, root); got != want {
		t.Fatalf("Verify(%d, %d), %d hashes: tells %v of %x", p.index, p.size, len(path), got, root)
	}
}

// others are hashes that are not d: such that differ in one bit, and no hash.
func others(d api.Digest) []api.Digest {
	out := []api.Digest{{}, merkle.Root(nil)}
	for _, at := range []int{0, 1, api.Hash / 2, api.Hash - 1} {
		other := d
		other[at] ^= 1 << (at % 8)
		out = append(out, other)
	}
	return slices.DeleteFunc(out, func(x api.Digest) bool { return x == d })
}

// inRoom is hashes with room behind them, which has others of its own.
func inRoom(l []api.Digest) []api.Digest {
	out := append(slices.Clone(l), anyHashes(99, 30)...)
	return out[:len(l)]
}

// spoil changes each hash, up to where the room ends: whoever shares memory with l is found by that.
func spoil(l []api.Digest) {
	l = l[:cap(l)]
	for i := range l {
		l[i][0] ^= 0xff
		l[i][api.Hash-1] ^= 0xff
	}
}

// hashesOf are bytes cut into hashes; what is left over goes.
func hashesOf(b []byte) []api.Digest {
	var out []api.Digest
	for len(b) >= api.Hash {
		out = append(out, api.Digest(b))
		b = b[api.Hash:]
	}
	return out
}

// bytesIn are bytes told in digits.
func bytesIn(t *testing.T, text string) []byte {
	t.Helper()
	b, err := hex.DecodeString(text)
	if err != nil {
		t.Fatal(err)
	}
	return b
}
