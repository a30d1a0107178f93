package extract_test

import (
	"bytes"
	"crypto/sha256"
	"encoding/hex"
	"slices"
	"strconv"
	"testing"

	"escritoire/api"
	"escritoire/extract"
)

// knownLeaves are leaves that logs of RFC 6962 are tried with, in digits.
var knownLeaves = []string{"", "00", "10", "2021", "3031", "40414243", "5051525354555657", "606162636465666768696a6b6c6d6e6f"}

// knownHeads are the heads of the first of them, from none on, in digits.
var knownHeads = []string{
	"e3b0c44298fc1c149afbf4c8996fb92427ae41e4649b934ca495991b7852b855",
	"6e340b9cffb37a989ca544e6bb780a2c78901d3fb33738768511a30617afa01d",
	"fac54203e7cc696cf0dfcb42c92a1d9dbaf70ad9e621f4bd8d98662f00e3c125",
	"aeb6bcfe274b70a14fb067a5e5578264db0fa9b51af5e0ba159158f329e06e77",
	"d37ee418976dd95753c1c73862b9398fa2a2cf9b4ff0fdfe8b30cd95209614b7",
	"4e3bbb1f7b478dcfe71fb631631519a3bca12c9aefca1612bfce4c13a86264d4",
	"76e67dadbcdf1e10e1b74ddc608abd2f98dfb16fbce75277b5232a127f2087ef",
	"ddb89be403809e325750d3d263cd78929c2942b7942a34b77e122c9594a74c8c",
	"5dc9da79a70659a9ad559cb701ded9a2ab9d823aad2f4960cfe370eff4604328",
}

// strong is a hash of which nobody knows two texts.
func strong(b []byte) api.Digest { return sha256.Sum256(b) }

// nought is 0 of all texts.
func nought([]byte) api.Digest { return api.Digest{} }

// few is a hash of n values, that begin with 0 to n - 1.
func few(n byte) extract.Hash {
	return func(b []byte) api.Digest {
		d := strong(b)
		return api.Digest{d[0] % n}
	}
}

// last is a hash that tells the last byte alone, and no bytes as 255.
func last(b []byte) api.Digest {
	if len(b) == 0 {
		return api.Digest{255}
	}
	return api.Digest{b[len(b)-1]}
}

// long is a hash that tells how many bytes there are.
func long(b []byte) api.Digest { return api.Digest{byte(len(b)), byte(len(b) >> 8)} }

// planted is the strong hash, but that of a is that of b.
func planted(a, b []byte) extract.Hash {
	return func(x []byte) api.Digest {
		if bytes.Equal(x, a) {
			return strong(b)
		}
		return strong(x)
	}
}

// weak are hashes of which there are many pairs.
func weak() map[string]extract.Hash {
	return map[string]extract.Hash{"nought": nought, "few 2": few(2), "few 3": few(3), "last": last, "long": long}
}

// anyLeaves are n leaves of a seed, which are all different, and of unlike lengths.
func anyLeaves(seed, n int) [][]byte {
	out := make([][]byte, n)
	for i := range out {
		out[i] = []byte(strconv.Itoa(seed) + "." + strconv.Itoa(i))
	}
	return out
}

// listsOf are all lists of up to most leaves, each of which is one of those given.
func listsOf(leaves [][]byte, most int) [][][]byte {
	out := [][][]byte{nil}
	for from := 0; most > 0; most-- {
		behind := len(out)
		for _, l := range out[from:behind] {
			for _, x := range leaves {
				out = append(out, append(slices.Clone(l), x))
			}
		}
		from = behind
	}
	return out
}

// rowsOf are all rows of n hashes, each of which is one of those given.
func rowsOf(hashes []api.Digest, n int) [][]api.Digest {
	out := [][]api.Digest{nil}
	for range n {
		var more [][]api.Digest
		for _, l := range out {
			for _, x := range hashes {
				more = append(more, append(slices.Clone(l), x))
			}
		}
		out = more
	}
	return out
}

// nodeText is the text of a node of two heads.
func nodeText(a, b api.Digest) []byte {
	return slices.Concat([]byte{1}, a[:], b[:])
}

// leafText is the text of a leaf.
func leafText(b []byte) []byte {
	return slices.Concat([]byte{0}, b)
}

// textOf is the text of a list, found from the leaves upwards: each two beside one another are put together, and one that is left goes up as it is, until there are two.
func textOf(h extract.Hash, l [][]byte) []byte {
	if len(l) == 0 {
		return nil
	}
	if len(l) == 1 {
		return leafText(l[0])
	}
	var level []api.Digest
	for _, x := range l {
		level = append(level, h(leafText(x)))
	}
	for len(level) > 2 {
		var above []api.Digest
		for two := range slices.Chunk(level, 2) {
			if len(two) == 2 {
				two[0] = h(nodeText(two[0], two[1]))
			}
			above = append(above, two[0])
		}
		level = above
	}
	return nodeText(level[0], level[1])
}

func headOf(h extract.Hash, l [][]byte) api.Digest {
	return h(textOf(h, l))
}

// isPair tells whether two texts are unlike, and have one hash.
func isPair(h extract.Hash, a, b []byte) bool {
	return !bytes.Equal(a, b) && h(slices.Clone(a)) == h(slices.Clone(b))
}

// same tells whether two lists are the same.
func same(a, b [][]byte) bool {
	if len(a) != len(b) {
		return false
	}
	for i, x := range a {
		if !bytes.Equal(x, b[i]) {
			return false
		}
	}
	return true
}

// half is how many leaves the first half of n has.
func half(n int) int {
	k := 1
	for 2*k < n {
		k *= 2
	}
	return k
}

// pairOfLists is what Lists must tell.
func pairOfLists(h extract.Hash, a, b [][]byte) (extract.Pair, bool) {
	if same(a, b) || headOf(h, a) != headOf(h, b) {
		return extract.Pair{}, false
	}
	for {
		p := extract.Pair{A: textOf(h, a), B: textOf(h, b)}
		if !bytes.Equal(p.A, p.B) {
			return p, true
		}
		j, k := half(len(a)), half(len(b))
		if same(a[:j], b[:k]) {
			a, b = a[j:], b[k:]
		} else {
			a, b = a[:j], b[:k]
		}
	}
}

// part is leaves from one on ahead of another one.
type part struct{ from, to int }

// beside are the parts beside the way up from a part of a list of n, and the parts on it, found from the leaves upwards: of each level what is beside the part that has it, as far as there are leaves.
func beside(n int, low part) (others, way []part) {
	way = []part{low}
	for many := bigAs(low); many < n; many *= 2 {
		from := (low.from/many ^ 1) * many
		if from >= n {
			continue
		}
		other := part{from, min(from+many, n)}
		on := way[len(way)-1]
		others = append(others, other)
		way = append(way, part{min(on.from, other.from), max(on.to, other.to)})
	}
	return others, way
}

// bigAs is the least power of 2 that is not less than a part.
func bigAs(p part) int {
	many := 1
	for many < p.to-p.from {
		many *= 2
	}
	return many
}

// texts are two of them: what is told of a part, and its own.
type texts struct{ told, own []byte }

// climbed are the texts on the way up from a part with the head told, and the head that is told of all.
func climbed(h extract.Hash, l [][]byte, low part, told api.Digest, path []api.Digest) ([]texts, api.Digest) {
	var out []texts
	others, way := beside(len(l), low)
	for i, p := range way[1:] {
		x := texts{nodeText(told, path[i]), textOf(h, l[p.from:p.to])}
		if others[i].from < low.from {
			x.told = nodeText(path[i], told)
		}
		told = h(x.told)
		out = append(out, x)
	}
	return out, told
}

// firstPair is the first pair of texts.
func firstPair(h extract.Hash, l []texts) (extract.Pair, bool) {
	for _, x := range l {
		if isPair(h, x.told, x.own) {
			return extract.Pair{A: x.told, B: x.own}, true
		}
	}
	return extract.Pair{}, false
}

// pairOfPath is what Included must tell.
func pairOfPath(h extract.Hash, l [][]byte, index int, leaf []byte, path []api.Digest) (extract.Pair, bool) {
	if index < 0 || index >= len(l) || bytes.Equal(leaf, l[index]) {
		return extract.Pair{}, false
	}
	low := part{index, index + 1}
	if others, _ := beside(len(l), low); len(others) != len(path) {
		return extract.Pair{}, false
	}
	first := texts{leafText(leaf), leafText(l[index])}
	up, told := climbed(h, l, low, h(leafText(leaf)), path)
	if told != headOf(h, l) {
		return extract.Pair{}, false
	}
	return firstPair(h, append([]texts{first}, up...))
}

// firstLow is the part where a proof of the first m leaves in a list of n begins.
func firstLow(m, n int) part {
	many := 1
	for m != n && m%(2*many) == 0 {
		many *= 2
	}
	if m == n {
		many = n
	}
	return part{m - many, m}
}

// toldBehind is the head that a proof, with the head that it begins with, tells of the first leaves, up to the part low.
func toldBehind(h extract.Hash, n int, low part, proof []api.Digest) api.Digest {
	older := proof[0]
	others, _ := beside(n, low)
	for i, p := range others {
		if p.from < low.from {
			older = h(nodeText(proof[i+1], older))
		}
	}
	return older
}

// pairOfProof is what Consistent must tell.
func pairOfProof(h extract.Hash, l [][]byte, m int, old api.Digest, proof []api.Digest) (extract.Pair, bool) {
	if m < 1 || m > len(l) || old == headOf(h, l[:m]) {
		return extract.Pair{}, false
	}
	low := firstLow(m, len(l))
	if low.from == 0 {
		proof = append([]api.Digest{old}, proof...)
	}
	if others, _ := beside(len(l), low); len(others)+1 != len(proof) {
		return extract.Pair{}, false
	}
	up, told := climbed(h, l, low, proof[0], proof[1:])
	if told != headOf(h, l) || toldBehind(h, len(l), low, proof) != old {
		return extract.Pair{}, false
	}
	return firstPair(h, up)
}

// pathOf is the path of a leaf.
func pathOf(h extract.Hash, l [][]byte, index int) []api.Digest {
	var out []api.Digest
	others, _ := beside(len(l), part{index, index + 1})
	for _, p := range others {
		out = append(out, headOf(h, l[p.from:p.to]))
	}
	return out
}

// proofOf is the proof of the first m leaves.
func proofOf(h extract.Hash, l [][]byte, m int) []api.Digest {
	var out []api.Digest
	low := firstLow(m, len(l))
	if low.from > 0 {
		out = append(out, headOf(h, l[low.from:low.to]))
	}
	others, _ := beside(len(l), low)
	for _, p := range others {
		out = append(out, headOf(h, l[p.from:p.to]))
	}
	return out
}

// wantAnswer wants an answer to be this one.
func wantAnswer(t *testing.T, what string, got extract.Pair, is bool, want extract.Pair, wanted bool) {
	t.Helper()
	if is != wanted || !bytes.Equal(got.A, want.A) || !bytes.Equal(got.B, want.B) {
		t.Errorf("%s: got %x and %x, %v, want %x and %x, %v", what, got.A, got.B, is, want.A, want.B, wanted)
	}
}

// wantPair wants an answer to be this one: nothing, or these texts, which are a pair.
func wantPair(t *testing.T, what string, h extract.Hash, got extract.Pair, is bool, want extract.Pair, wanted bool) {
	t.Helper()
	if wantAnswer(t, what, got, is, want, wanted); t.Failed() {
		t.FailNow()
	}
	if is && !isPair(h, got.A, got.B) {
		t.Fatalf("%s: %x and %x are no pair", what, got.A, got.B)
	}
	if extract.May(h, got) != is {
		t.Fatalf("%s: May tells %v of %x and %x", what, !is, got.A, got.B)
	}
}

// wantLists wants Lists to tell what it must, and whichever of the lists is first.
func wantLists(t *testing.T, h extract.Hash, a, b [][]byte) bool {
	t.Helper()
	want, wanted := pairOfLists(h, a, b)
	what := "Lists of " + nameOf(a) + " and " + nameOf(b)
	got, is := extract.Lists(h, a, b)
	wantPair(t, what, h, got, is, want, wanted)
	got, is = extract.Lists(h, b, a)
	wantPair(t, what+", turned", h, got, is, extract.Pair{A: want.B, B: want.A}, wanted)
	return is
}

func wantIncluded(t *testing.T, h extract.Hash, l [][]byte, index int, leaf []byte, path []api.Digest) bool {
	t.Helper()
	want, wanted := pairOfPath(h, l, index, leaf, path)
	got, is := extract.Included(h, l, index, leaf, path)
	wantPair(t, "Included of "+nameOf(l)+" at "+strconv.Itoa(index)+", "+strconv.Itoa(len(path))+" hashes", h, got, is, want, wanted)
	return is
}

func wantConsistent(t *testing.T, h extract.Hash, l [][]byte, m int, old api.Digest, proof []api.Digest) bool {
	t.Helper()
	want, wanted := pairOfProof(h, l, m, old, proof)
	got, is := extract.Consistent(h, l, m, old, proof)
	wantPair(t, "Consistent of "+nameOf(l)+", the first "+strconv.Itoa(m)+", "+strconv.Itoa(len(proof))+" hashes", h, got, is, want, wanted)
	return is
}

// wantNone wants an answer to be that there is none.
func wantNone(t *testing.T, what string, p extract.Pair, is bool) {
	t.Helper()
	wantAnswer(t, what, p, is, extract.Pair{}, false)
}

// nameOf tells a short list in digits, and how long another one is.
func nameOf(l [][]byte) string {
	if len(l) > 8 {
		return strconv.Itoa(len(l)) + " leaves"
	}
	out := "("
	for i, x := range l {
		if i > 0 {
			out += " "
		}
		out += hex.EncodeToString(x)
	}
	return out + ")"
}

// changed is a list with another leaf at one place.
func changed(l [][]byte, at int, leaf []byte) [][]byte {
	out := slices.Clone(l)
	out[at] = leaf
	return out
}

// copyOf is a list whose leaves are copied, too.
func copyOf(l [][]byte) [][]byte {
	out := make([][]byte, len(l))
	for i, x := range l {
		out[i] = append(make([]byte, 0, len(x)+3), x...)
	}
	return out
}

// spoil changes each byte, up to where the room ends: whoever shares memory with b is found by that.
func spoil(b []byte) {
	b = b[:cap(b)]
	for i := range b {
		b[i] ^= 0xff
	}
}

// bytesIn are bytes told in digits.
func bytesIn(t *testing.T, text string) []byte {
	t.Helper()
	b, err := hex.DecodeString(text)
	if err != nil {
		t.Fatal(err)
	}
	return b
}
