package consist_test

import (
	"cmp"
	"encoding/binary"
	"encoding/hex"
	"math"
	"math/bits"
	"slices"
	"testing"

	"escritoire/api"
	"escritoire/consist"
	"escritoire/incl"
	"escritoire/merkle"
)

// The document's limits, in numbers of the tests' own.
const (
	mostLeaves = 1048576
	mostHashes = 21
)

// knownLeaves are leaves that logs of RFC 6962 are tried with, in digits.
var knownLeaves = []string{"", "00", "10", "2021", "3031", "40414243", "5051525354555657", "606162636465666768696a6b6c6d6e6f"}

// knownHeads are the heads of the first of them, from one on, in digits.
var knownHeads = []string{
	"6e340b9cffb37a989ca544e6bb780a2c78901d3fb33738768511a30617afa01d",
	"fac54203e7cc696cf0dfcb42c92a1d9dbaf70ad9e621f4bd8d98662f00e3c125",
	"aeb6bcfe274b70a14fb067a5e5578264db0fa9b51af5e0ba159158f329e06e77",
	"d37ee418976dd95753c1c73862b9398fa2a2cf9b4ff0fdfe8b30cd95209614b7",
	"4e3bbb1f7b478dcfe71fb631631519a3bca12c9aefca1612bfce4c13a86264d4",
	"76e67dadbcdf1e10e1b74ddc608abd2f98dfb16fbce75277b5232a127f2087ef",
	"ddb89be403809e325750d3d263cd78929c2942b7942a34b77e122c9594a74c8c",
	"5dc9da79a70659a9ad559cb701ded9a2ab9d823aad2f4960cfe370eff4604328",
}

// known are proofs in their trees, in digits.
var known = []struct {
	part  part
	proof []string
}{
	{part{1, 1}, nil},
	{part{1, 8}, []string{
		"96a296d224f285c67bee93c30f8a309157f0daa35dc5b87e410b78630a09cfc7",
		"5f083f0a1a33ca076a95279832580db3e0ef4584bdff1f54c8a360f50de3031e",
		"6b47aaf29ee3c2af9af889bc1fb9254dabd31177f16232dd6aab035ca39bf6e4"}},
	{part{2, 5}, []string{
		"5f083f0a1a33ca076a95279832580db3e0ef4584bdff1f54c8a360f50de3031e",
		"bc1a0643b12e4d2d7c77918f44e0f4f79a838b6cf9ec5b5c283e1f4d88599e6b"}},
	{part{6, 8}, []string{
		"0ebc5d3437fbe2db158b9f126a1d118e308181031d0a949f8dededebc558ef6a",
		"ca854ea128ed050b41b35ffc1b87b8eb2bde461e9e3b5596ece6b9d5975a0ae0",
		"d37ee418976dd95753c1c73862b9398fa2a2cf9b4ff0fdfe8b30cd95209614b7"}},
}

// part are the first m leaves of a tree of n, or what is taken for that.
type part struct{ m, n uint64 }

// heads are those of the first leaves, and of all.
type heads struct{ old, anew api.Digest }

// small are all parts, but the empty ones, of trees up to a size.
func small(most uint64) []part {
	var out []part
	for n := uint64(1); n <= most; n++ {
		for m := range n {
			out = append(out, part{m + 1, n})
		}
	}
	return out
}

// great are some parts of trees up to a size: of the neighbours of powers of 2, and of sums of them, the least and the greatest parts, those about powers of 2, and some of a rule.
func great(most uint64) []part {
	var out []part
	for many := uint64(128); many <= most; many *= 2 {
		for _, n := range []uint64{many - 1, many, many + 1, many + many/2 - 1, many + many/2, many + many/4 + 1, many + many*3/7} {
			firsts := []uint64{1, 2, 3, n - 2, n - 1, n, n / 3, n / 5 * 4}
			for power := uint64(4); power < n; power *= 2 {
				firsts = append(firsts, power-1, power, power+1, n-power)
			}
			for _, m := range firsts {
				if n <= most && m > 0 {
					out = append(out, part{m, n})
				}
			}
		}
	}
	return out
}

// bad are parts that may not be, even empty ones.
func bad() []part {
	far := []uint64{mostLeaves + 1, mostLeaves + 2, 2*mostLeaves - 1, 2 * mostLeaves, 1 << 31, 1<<32 - 1, 1 << 32, 1<<32 + 1, 1<<32 + 7, 1 << 53, 1<<63 - 1, 1 << 63, 1<<63 + 1, math.MaxUint64 - 1, math.MaxUint64}
	var out []part
	for _, n := range far {
		for _, m := range append([]uint64{0, 1, 2, 6, mostLeaves - 1, mostLeaves, n / 2, n - 1, n}, far...) {
			out = append(out, part{m, n})
		}
	}
	for _, n := range []uint64{0, 1, 2, 3, 4, 7, 8, 100, mostLeaves - 1, mostLeaves} {
		for _, m := range append([]uint64{n + 1, n + 2, 2*n + 1, 2*n + 2, mostLeaves + 1}, far...) {
			out = append(out, part{m, n})
		}
	}
	return out
}

// may tells whether a part may be, the empty ones, too.
func may(p part) bool {
	return p.n <= mostLeaves && p.m <= p.n
}

// isPower tells whether n is a power of 2.
func isPower(n uint64) bool {
	return bits.OnesCount64(n) == 1
}

// anyHashes are n hashes of a seed, which are all different.
func anyHashes(seed uint64, n int) []api.Digest {
	out := make([]api.Digest, n)
	for i := range out {
		text := binary.BigEndian.AppendUint64([]byte("any"), seed)
		out[i] = merkle.Leaf(binary.BigEndian.AppendUint64(text, uint64(i)))
	}
	return out
}

// r is a range, from one leaf on up to another one.
func r(from, to uint64) incl.Range {
	return incl.Range{From: from, To: to}
}

// rangesOf are the ranges of a proof, found from the leaves upwards: of the greatest whole part that ends with the first m leaves, and then of each level what is beside the node that has it, as far as there are leaves.
func rangesOf(p part) []incl.Range {
	if p.m == 0 || p.m == p.n {
		return nil
	}
	var out []incl.Range
	many := p.m & -p.m
	from := p.m - many
	if from > 0 {
		out = append(out, r(from, p.m))
	}
	for ; many < p.n; many *= 2 {
		if beside := (from/many ^ 1) * many; beside < p.n {
			out = append(out, r(beside, min(beside+many, p.n)))
		}
	}
	return out
}

// proofOf is the proof as RFC 6962 (2.1.2) makes it, with lists that are cut.
func proofOf(leaves []api.Digest, m uint64, mark bool) []api.Digest {
	n := uint64(len(leaves))
	if m == n && mark {
		return nil
	}
	if m == n {
		return []api.Digest{merkle.Root(leaves)}
	}
	k := uint64(1)
	for 2*k < n {
		k *= 2
	}
	if m <= k {
		return append(proofOf(leaves[:k], m, mark), merkle.Root(leaves[k:]))
	}
	return append(proofOf(leaves[k:], m-k, false), merkle.Root(leaves[:k]))
}

// headsOf are what a proof tells, and whether it has as many hashes as it must have: RFC 9162's way (2.1.4.2), which goes by the digits of both trees' last leaves.
func headsOf(p part, old api.Digest, proof []api.Digest) (heads, bool) {
	if p.m == p.n {
		return heads{old, old}, len(proof) == 0
	}
	if isPower(p.m) {
		proof = append([]api.Digest{old}, proof...)
	}
	if len(proof) == 0 {
		return heads{}, false
	}
	at, last := p.m-1, p.n-1
	for at%2 == 1 {
		at, last = at/2, last/2
	}
	h := heads{proof[0], proof[0]}
	for _, x := range proof[1:] {
		if last == 0 {
			return heads{}, false
		}
		if at%2 == 1 || at == last {
			h = heads{merkle.Node(x, h.old), merkle.Node(x, h.anew)}
			for at%2 == 0 && at > 0 {
				at, last = at/2, last/2
			}
		} else {
			h.anew = merkle.Node(h.anew, x)
		}
		at, last = at/2, last/2
	}
	if last != 0 {
		return heads{}, false
	}
	return h, true
}

func wantRanges(t *testing.T, p part, want []incl.Range) {
	t.Helper()
	got, e := consist.Ranges(p.m, p.n)
	if e != api.OK || !slices.Equal(got, want) {
		t.Fatalf("Ranges(%d, %d): got %v, error %d, want %v", p.m, p.n, got, e, want)
	}
}

func wantNoRanges(t *testing.T, p part) {
	t.Helper()
	if got, e := consist.Ranges(p.m, p.n); e != api.ErrArg || len(got) != 0 {
		t.Errorf("Ranges(%d, %d): got %v, error %d, want ErrArg alone", p.m, p.n, got, e)
	}
}

// wantCovers wants the ranges, with the first m leaves where they are left out, to be all leaves, each of them once, and no range to be empty.
func wantCovers(t *testing.T, p part, ranges []incl.Range) {
	t.Helper()
	all := slices.Clone(ranges)
	if isPower(p.m) || p.m == p.n {
		all = append(all, r(0, p.m))
	}
	slices.SortFunc(all, func(a, b incl.Range) int { return cmp.Compare(a.From, b.From) })
	at := uint64(0)
	for _, x := range all {
		if x.From != at || x.To <= x.From {
			t.Fatalf("Ranges(%d, %d): %v stands behind the leaf ahead of %d", p.m, p.n, x, at)
		}
		at = x.To
	}
	if at != p.n {
		t.Fatalf("Ranges(%d, %d): they end ahead of %d", p.m, p.n, at)
	}
}

func wantProof(t *testing.T, leaves []api.Digest, m uint64, want []api.Digest) {
	t.Helper()
	got, e := consist.Proof(leaves, m)
	if e != api.OK || !slices.Equal(got, want) {
		t.Fatalf("Proof(%d leaves, %d): got %x, error %d, want %x", len(leaves), m, got, e, want)
	}
}

func wantNoProof(t *testing.T, leaves []api.Digest, m uint64) {
	t.Helper()
	if got, e := consist.Proof(leaves, m); e != api.ErrArg || len(got) != 0 {
		t.Errorf("Proof(%d leaves, %d): got %d hashes, error %d, want ErrArg alone", len(leaves), m, len(got), e)
	}
}

// wantHeads wants Heads to tell these heads, and Verify to hold them for the only ones: just if old is the older one of them, too.
func wantHeads(t *testing.T, p part, old api.Digest, proof []api.Digest, want heads) {
	t.Helper()
	a, b, e := consist.Heads(p.m, p.n, old, proof)
	if e != api.OK || a != want.old || b != want.anew {
		t.Fatalf("Heads(%d, %d): got %x, %x, error %d, want %x", p.m, p.n, a, b, e, want)
	}
	wantVerify(t, p, heads{old, want.anew}, proof, old == want.old)
	for _, other := range others(want.anew) {
		wantVerify(t, p, heads{old, other}, proof, false)
	}
}

// wantNoHeads wants Heads to tell ErrArg alone, and, of no empty part, Verify to hold nothing for the heads, the zero ones that Heads tells included.
func wantNoHeads(t *testing.T, p part, old api.Digest, proof []api.Digest) {
	t.Helper()
	a, b, e := consist.Heads(p.m, p.n, old, proof)
	if none := (api.Digest{}); e != api.ErrArg || a != none || b != none {
		t.Fatalf("Heads(%d, %d), %d hashes: got %x, %x, error %d, want ErrArg alone", p.m, p.n, len(proof), a, b, e)
	}
	if p.m == 0 {
		return
	}
	wantVerify(t, p, heads{}, proof, false)
	for _, anew := range []api.Digest{{}, old, merkle.Root(nil), merkle.Root(proof)} {
		wantVerify(t, p, heads{old, anew}, proof, false)
	}
}

func wantVerify(t *testing.T, p part, h heads, proof []api.Digest, want bool) {
	t.Helper()
	if got := consist.Verify(p.m, p.n, h.old, h.anew, proof); got != want {
		t.Fatalf("Verify(%d, %d), %d hashes: tells %v of %x", p.m, p.n, len(proof), got, h)
	}
}

// others are hashes that are not d: such that differ in one bit, and no hash.
func others(d api.Digest) []api.Digest {
	out := []api.Digest{{}, merkle.Root(nil)}
	for _, at := range []int{0, 1, api.Hash / 2, api.Hash - 1} {
		other := d
		other[at] ^= 1 << (at % 8)
		out = append(out, other)
	}
	return slices.DeleteFunc(out, func(x api.Digest) bool { return x == d })
}

// inRoom is hashes with room behind them, which has others of its own.
func inRoom(l []api.Digest) []api.Digest {
	out := append(slices.Clone(l), anyHashes(99, 30)...)
	return out[:len(l)]
}

// spoil changes each hash, up to where the room ends: whoever shares memory with l is found by that.
func spoil(l []api.Digest) {
	l = l[:cap(l)]
	for i := range l {
		l[i][0] ^= 0xff
		l[i][api.Hash-1] ^= 0xff
	}
}

// hashesOf are bytes cut into hashes; what is left over goes.
func hashesOf(b []byte) []api.Digest {
	var out []api.Digest
	for len(b) >= api.Hash {
		out = append(out, api.Digest(b))
		b = b[api.Hash:]
	}
	return out
}

// hashIn is a hash told in digits.
func hashIn(t *testing.T, text string) api.Digest {
	t.Helper()
	return api.Digest(bytesIn(t, text))
}

// bytesIn are bytes told in digits.
func bytesIn(t *testing.T, text string) []byte {
	t.Helper()
	b, err := hex.DecodeString(text)
	if err != nil {
		t.Fatal(err)
	}
	return b
}
