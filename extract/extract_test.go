package extract_test

import (
	"bytes"
	"errors"
	"math"
	"slices"
	"strconv"
	"sync"
	"testing"

	"escritoire/api"
	"escritoire/consist"
	"escritoire/extract"
	"escritoire/incl"
	"escritoire/merkle"
)

// abc are the chapter's leaves.
func abc() [][]byte {
	return [][]byte{[]byte("a"), []byte("b"), []byte("c")}
}

// P12.1: May

func TestMay(t *testing.T) {
	a, b := []byte("a"), []byte("b")
	tests := []struct {
		name string
		hash extract.Hash
		pair extract.Pair
		want bool
	}{
		{"unlike, one hash", nought, extract.Pair{A: a, B: b}, true},
		{"unlike, one hash, turned", nought, extract.Pair{A: b, B: a}, true},
		{"no bytes and some, one hash", nought, extract.Pair{B: b}, true},
		{"some bytes and none, one hash", nought, extract.Pair{A: a}, true},
		{"one byte and two, one hash", nought, extract.Pair{A: a, B: []byte("aa")}, true},
		{"noughts of unlike lengths, one hash", nought, extract.Pair{A: []byte{0}, B: []byte{0, 0}}, true},
		{"unlike at the end alone, one hash", long, extract.Pair{A: []byte("abcd"), B: []byte("abce")}, true},
		{"unlike, one last byte", last, extract.Pair{A: []byte("xa"), B: []byte("ya")}, true},
		{"unlike, unlike last bytes", last, extract.Pair{A: []byte("xa"), B: []byte("xb")}, false},
		{"unlike, unlike lengths", long, extract.Pair{A: a, B: []byte("aa")}, false},
		{"unlike, unlike hashes", strong, extract.Pair{A: a, B: b}, false},
		{"the same", nought, extract.Pair{A: a, B: []byte("a")}, false},
		{"the same, the one text twice", nought, extract.Pair{A: a, B: a}, false},
		{"the same, of a strong hash", strong, extract.Pair{A: a, B: a}, false},
		{"no bytes", nought, extract.Pair{}, false},
		{"no bytes, nil and empty", nought, extract.Pair{B: []byte{}}, false},
		{"no hash", nil, extract.Pair{A: a, B: b}, false},
		{"no hash, no bytes", nil, extract.Pair{}, false},
		{"planted", planted(a, b), extract.Pair{A: a, B: b}, true},
		{"planted, beside it", planted(a, b), extract.Pair{A: a, B: []byte("c")}, false},
	}
	for _, x := range tests {
		if got := extract.May(x.hash, x.pair); got != x.want {
			t.Errorf("%s: got %v", x.name, got)
		}
	}
}

// Hashes that are the same but for one bit are not one hash.
func TestMayLooksAtAllOfAHash(t *testing.T) {
	for at := range 8 * api.Hash {
		h := func(b []byte) api.Digest {
			d := api.Digest{1, 2, 3}
			if len(b) == 1 {
				d[at/8] ^= 1 << (at % 8)
			}
			return d
		}
		if extract.May(h, extract.Pair{A: []byte("a"), B: []byte("ab")}) {
			t.Errorf("bit %d is not looked at", at)
		}
	}
}

// P12.1: Root

func TestKnownRoots(t *testing.T) {
	var leaves [][]byte
	for _, x := range knownLeaves {
		leaves = append(leaves, bytesIn(t, x))
	}
	for n, want := range knownHeads {
		if got := extract.Root(strong, leaves[:n]); got != api.Digest(bytesIn(t, want)) {
			t.Errorf("Root of %d known leaves: got %x, want %s", n, got, want)
		}
	}
}

func TestRootsOfLists(t *testing.T) {
	l := anyLeaves(1, 1030)
	sizes := []int{255, 256, 257, 383, 384, 511, 512, 513, 1023, 1024, 1025, 1030}
	for n := range 140 {
		sizes = append(sizes, n)
	}
	for _, n := range sizes {
		if got, want := extract.Root(strong, l[:n]), merkle.Root(merkle.Leaves(l[:n])); got != want {
			t.Fatalf("Root of %d leaves: got %x, want %x", n, got, want)
		}
		for name, h := range weak() {
			if got, want := extract.Root(h, l[:n]), headOf(h, l[:n]); got != want {
				t.Fatalf("Root of %d leaves, %s: got %x, want %x", n, name, got, want)
			}
		}
	}
}

// The hash is asked of the texts alone, whatever it is.
func TestRootsOfAHashOfThree(t *testing.T) {
	asked := map[string]bool{}
	h := func(b []byte) api.Digest {
		asked[string(b)] = true
		return api.Digest{byte(len(b)), b[0], b[len(b)-1]}
	}
	a, b, c := api.Digest{2, 0, 'a'}, api.Digest{2, 0, 'b'}, api.Digest{2, 0, 'c'}
	ab := api.Digest{65, 1, 0}
	if got := extract.Root(h, abc()); got != ab {
		t.Errorf("got %x", got)
	}
	for _, want := range []string{"\x00a", "\x00b", "\x00c", string(nodeText(a, b)), string(nodeText(ab, c))} {
		if !asked[want] {
			t.Errorf("%x was not asked for", want)
		}
	}
	if len(asked) != 5 {
		t.Errorf("%d texts were asked for", len(asked))
	}
}

func TestRootOfNoHash(t *testing.T) {
	for _, l := range [][][]byte{nil, {}, {nil}, abc()} {
		if got := extract.Root(nil, l); got != (api.Digest{}) {
			t.Errorf("Root of %s: got %x", nameOf(l), got)
		}
	}
}

// P12.2

func TestListsOfTheChapter(t *testing.T) {
	a, b := [][]byte{[]byte("a")}, [][]byte{[]byte("b")}
	p, is := extract.Lists(nought, a, b)
	wantPair(t, "Lists of (a), (b)", nought, p, is, extract.Pair{A: []byte{0, 0x61}, B: []byte{0, 0x62}}, true)
	p, is = extract.Lists(nought, a, nil)
	wantPair(t, "Lists of (a), none", nought, p, is, extract.Pair{A: []byte{0, 0x61}}, true)
	p, is = extract.Lists(nought, nil, b)
	wantPair(t, "Lists of none, (b)", nought, p, is, extract.Pair{B: []byte{0, 0x62}}, true)
	p, is = extract.Lists(nought, abc()[:2], abc()[:2])
	wantNone(t, "Lists of (a b), (a b)", p, is)
	p, is = extract.Lists(nought, abc()[:2], abc()[1:])
	wantPair(t, "Lists of (a b), (b c)", nought, p, is, extract.Pair{A: []byte{0, 'a'}, B: []byte{0, 'b'}}, true)
}

// Of halves of which both are not the same, the first ones are gone down to.
func TestListsGoDownToTheFirstHalves(t *testing.T) {
	x, y := []byte("x"), []byte("y")
	p, is := extract.Lists(nought, [][]byte{[]byte("a"), x, []byte("c"), y}, [][]byte{[]byte("a"), y, []byte("d"), x})
	wantPair(t, "both halves", nought, p, is, extract.Pair{A: leafText(x), B: leafText(y)}, true)
	p, is = extract.Lists(nought, [][]byte{x, y, x}, [][]byte{x, y, y})
	wantPair(t, "the other half", nought, p, is, extract.Pair{A: leafText(x), B: leafText(y)}, true)
	p, is = extract.Lists(nought, [][]byte{x, y, x, x}, [][]byte{x, y, x})
	wantPair(t, "a node and a leaf", nought, p, is, extract.Pair{A: nodeText(api.Digest{}, api.Digest{}), B: leafText(x)}, true)
}

func TestSmallLists(t *testing.T) {
	all := listsOf([][]byte{nil, []byte("a"), []byte("\x00a")}, 4)
	for name, h := range weak() {
		found := 0
		for i, a := range all {
			for _, b := range all[:i+1] {
				if wantLists(t, h, a, b) {
					found++
				}
			}
		}
		if found == 0 {
			t.Errorf("%s: no pair at all", name)
		}
	}
}

func TestListsOfTwoLeavesOfManySizes(t *testing.T) {
	h := few(2)
	all := listsOf([][]byte{[]byte("a"), []byte("b")}, 8)
	for i, a := range all {
		for j := i % 13; j <= i; j += 13 {
			wantLists(t, h, a, all[j])
		}
	}
}

// Two lists that have one head, as one of their parts has the text of another list planted for its own: the pair is at that part, wherever it is.
func TestListsWithAPlantedPart(t *testing.T) {
	for n := 1; n <= 33; n++ {
		l := anyLeaves(2, n)
		for index := range n {
			other := changed(l, index, []byte("other"))
			_, way := beside(n, part{index, index + 1})
			for _, p := range way {
				a, b := textOf(strong, l[p.from:p.to]), textOf(strong, other[p.from:p.to])
				h := planted(a, b)
				got, is := extract.Lists(h, l, other)
				wantPair(t, "one leaf of "+nameOf(l), h, got, is, extract.Pair{A: a, B: b}, true)
				wantLists(t, h, other, l)
			}
			got, is := extract.Lists(strong, l, other)
			wantNone(t, "unlike heads", got, is)
		}
	}
}

// The last part of a list may be planted for more, or fewer, leaves.
func TestListsOfUnlikeSizesWithAPlantedPart(t *testing.T) {
	for n := 1; n <= 20; n++ {
		l := anyLeaves(3, n)
		_, way := beside(n, part{n - 1, n})
		for _, p := range way {
			for _, more := range []int{0, 1, 2, 3, 5, 8} {
				if p.from+more > 0 && (p.from&-p.from >= more || p.from == 0) {
					other := slices.Concat(l[:p.from], anyLeaves(4, more))
					wantLists(t, planted(textOf(strong, l[p.from:]), textOf(strong, other[p.from:])), l, other)
				}
			}
		}
	}
}

func TestListsThatAreTheSame(t *testing.T) {
	for n := range 20 {
		for name, h := range weak() {
			l := anyLeaves(5, n)
			p, is := extract.Lists(h, l, copyOf(l))
			wantNone(t, name, p, is)
		}
	}
	for _, l := range [][][][]byte{{nil, {}}, {{}, nil}, {{nil}, {{}}}, {{{}, []byte("a")}, {nil, []byte("a")}}} {
		p, is := extract.Lists(nought, l[0], l[1])
		wantNone(t, "nil and empty", p, is)
	}
}

// A leaf's bytes may be those of a node's text, or of no text: they are a leaf's all the same.
func TestListsOfLeavesThatLookLikeTexts(t *testing.T) {
	two := abc()[:2]
	a, b := strong(leafText(two[0])), strong(leafText(two[1]))
	for _, x := range [][]byte{nil, leafText(two[0]), nodeText(a, b), nodeText(a, b)[1:], a[:]} {
		one := [][]byte{x}
		p, is := extract.Lists(strong, one, two)
		wantNone(t, "unlike heads", p, is)
		p, is = extract.Lists(nought, one, two)
		wantPair(t, "one head", nought, p, is, extract.Pair{A: leafText(x), B: nodeText(api.Digest{}, api.Digest{})}, true)
		p, is = extract.Lists(nought, one, nil)
		wantPair(t, "one leaf and none", nought, p, is, extract.Pair{A: leafText(x)}, true)
	}
}

// P12.3

func TestIncludedOfTheChapter(t *testing.T) {
	p, is := extract.Included(nought, abc(), 1, []byte("x"), make([]api.Digest, 2))
	wantPair(t, "Included of (a b c)", nought, p, is, extract.Pair{A: []byte{0, 0x78}, B: []byte{0, 0x62}}, true)
}

func TestIncludedInSmallLists(t *testing.T) {
	leaves := [][]byte{nil, []byte("a"), []byte("bc")}
	for _, values := range []byte{1, 2, 3} {
		h, found := few(values), 0
		hashes := []api.Digest{{0}, {1}, {2}}
		for _, l := range listsOf(leaves, 4) {
			for index := range l {
				for n := range 4 {
					for _, path := range rowsOf(hashes, n) {
						if wantIncluded(t, h, l, index, leaves[(len(l)+index+n)%3], path) {
							found++
						}
					}
				}
			}
		}
		if found == 0 {
			t.Errorf("%d values: no pair at all", values)
		}
	}
}

func TestIncludedInLists(t *testing.T) {
	for n := 1; n <= 12; n++ {
		l := anyLeaves(6, n)
		for name, h := range weak() {
			for index := range n {
				path := pathOf(h, l, index)
				for i := range 12 {
					leaf := []byte{byte(i), byte(i * i)}
					wantIncluded(t, h, l, index, leaf, path)
					for j := range path {
						other := slices.Clone(path)
						other[j] = h([]byte{byte(i)})
						wantIncluded(t, h, l, index, leaf, other)
						other[j] = strong([]byte(name))
						wantIncluded(t, h, l, index, leaf, other)
					}
				}
			}
		}
	}
}

// A path of another leaf that is verified, as one text on its way up is planted for the tree's: these are the pair, wherever they are.
func TestIncludedWithAPlantedPart(t *testing.T) {
	other := []byte("other")
	for n := 1; n <= 33; n++ {
		l := anyLeaves(7, n)
		for index := range n {
			path := pathOf(strong, l, index)
			_, way := beside(n, part{index, index + 1})
			told := changed(l, index, other)
			for _, p := range way {
				want := extract.Pair{A: textOf(strong, told[p.from:p.to]), B: textOf(strong, l[p.from:p.to])}
				h := planted(want.A, want.B)
				got, is := extract.Included(h, l, index, other, path)
				wantPair(t, "planted for the tree's", h, got, is, want, true)
				h = planted(want.B, want.A)
				wantIncluded(t, h, l, index, other, pathOf(h, l, index))
			}
			got, is := extract.Included(strong, l, index, other, path)
			wantNone(t, "another head", got, is)
		}
	}
}

// Of two places on the way up where there is a pair, the lower one is told.
func TestIncludedTellsTheLowestPair(t *testing.T) {
	l := anyLeaves(8, 8)
	path := pathOf(strong, l, 5)
	told := changed(l, 5, []byte("other"))
	first := extract.Pair{A: textOf(strong, told[4:6]), B: textOf(strong, l[4:6])}
	path[2] = strong([]byte("a path that lies twice"))
	above := nodeText(path[2], headOf(strong, l[4:]))
	h := func(b []byte) api.Digest {
		if bytes.Equal(b, above) {
			b = textOf(strong, l)
		}
		return planted(first.A, first.B)(b)
	}
	got, is := extract.Included(h, l, 5, []byte("other"), path)
	wantPair(t, "two pairs", h, got, is, first, true)
}

// A pair on the way up counts only if the path tells the tree's head.
func TestIncludedOfAnotherHead(t *testing.T) {
	l := anyLeaves(9, 8)
	other := []byte("other")
	h := planted(leafText(other), leafText(l[3]))
	path := pathOf(h, l, 3)
	if !wantIncluded(t, h, l, 3, other, path) {
		t.Error("no pair of the path")
	}
	for i := range path {
		lies := slices.Clone(path)
		lies[i][31] ^= 1
		p, is := extract.Included(h, l, 3, other, lies)
		wantNone(t, "another head", p, is)
	}
}

func TestIncludedOfTheLeafThatStandsThere(t *testing.T) {
	for n := 1; n <= 20; n++ {
		l := anyLeaves(10, n)
		for index := range n {
			for name, h := range weak() {
				p, is := extract.Included(h, l, index, slices.Clone(l[index]), pathOf(h, l, index))
				wantNone(t, name, p, is)
			}
		}
	}
	p, is := extract.Included(nought, [][]byte{{}}, 0, nil, nil)
	wantNone(t, "no bytes", p, is)
	p, is = extract.Included(nought, [][]byte{nil}, 0, []byte{}, nil)
	wantNone(t, "no bytes", p, is)
}

func TestIncludedAtPlacesThatAreNone(t *testing.T) {
	for n := range 12 {
		l := anyLeaves(11, n)
		for _, index := range []int{-1, -2, -n, n, n + 1, 2*n + 1, math.MaxInt32, math.MinInt32, math.MaxInt, math.MinInt} {
			if index >= 0 && index < n {
				continue
			}
			for many := range 6 {
				p, is := extract.Included(nought, l, index, []byte("x"), make([]api.Digest, many))
				wantNone(t, nameOf(l)+" at "+strconv.Itoa(index), p, is)
			}
		}
	}
}

// How many hashes a path has is what chapter 10 tells.
func TestIncludedOfPathsOfOtherLengths(t *testing.T) {
	for n := 1; n <= 70; n++ {
		l := anyLeaves(12, n)
		for index := range n {
			ranges, _ := incl.Ranges(uint64(index), uint64(n))
			for many := range 9 {
				p, is := extract.Included(nought, l, index, []byte("x"), make([]api.Digest, many))
				if many != len(ranges) {
					wantNone(t, nameOf(l)+", "+strconv.Itoa(many)+" hashes", p, is)
				} else {
					wantPair(t, nameOf(l), nought, p, is, extract.Pair{A: leafText([]byte("x")), B: leafText(l[index])}, true)
				}
			}
		}
	}
	p, is := extract.Included(nought, abc(), 1, []byte("x"), make([]api.Digest, 100000))
	wantNone(t, "many hashes", p, is)
}

// P12.4

func TestConsistentOfTheChapter(t *testing.T) {
	for many := range 4 {
		p, is := extract.Consistent(nought, abc(), 2, api.Digest{}, make([]api.Digest, many))
		wantNone(t, "0 is their head", p, is)
	}
	one := api.Digest{1}
	p, is := extract.Consistent(nought, abc(), 2, one, make([]api.Digest, 1))
	wantPair(t, "Consistent of (a b c), 2", nought, p, is, extract.Pair{A: nodeText(one, api.Digest{}), B: nodeText(api.Digest{}, api.Digest{})}, true)
}

func TestConsistentInSmallLists(t *testing.T) {
	hashes := []api.Digest{{0}, {1}, {2}}
	for _, values := range []byte{1, 2, 3} {
		h, found := few(values), 0
		for n := range 8 {
			l := anyLeaves(13, n)
			for m := range n + 2 {
				for many := range 5 {
					for _, proof := range rowsOf(hashes, many) {
						for _, old := range hashes {
							if wantConsistent(t, h, l, m, old, proof) {
								found++
							}
						}
					}
				}
			}
		}
		if found == 0 {
			t.Errorf("%d values: no pair at all", values)
		}
	}
}

func TestConsistentInLists(t *testing.T) {
	for n := 1; n <= 12; n++ {
		l := anyLeaves(14, n)
		for name, h := range weak() {
			for m := 1; m <= n; m++ {
				proof := proofOf(h, l, m)
				for i := range 12 {
					old := h([]byte{byte(i), byte(i)})
					wantConsistent(t, h, l, m, old, proof)
					for j := range proof {
						other := slices.Clone(proof)
						other[j] = h([]byte{byte(i)})
						wantConsistent(t, h, l, m, old, other)
						other[j] = strong([]byte(name))
						wantConsistent(t, h, l, m, old, other)
						wantConsistent(t, h, l, m, strong([]byte(name)), other)
					}
				}
			}
		}
	}
}

// lies are proofs of heads that were none, with these: of each hash that the head of the first leaves is made from, one that has another hash there.
func lies(l [][]byte, m int) (olds []api.Digest, proofs [][]api.Digest) {
	low, proof := firstLow(m, len(l)), proofOf(strong, l, m)
	lie := strong([]byte("a lie"))
	if low.from == 0 {
		return []api.Digest{lie}, [][]api.Digest{proof}
	}
	for i := range proof {
		other := slices.Clone(proof)
		other[i] = lie
		olds = append(olds, toldBehind(strong, len(l), low, other))
		proofs = append(proofs, other)
	}
	return olds, proofs
}

// A proof of another head that is verified, as one text on its way up is planted for the tree's: these are the pair, wherever they are.
func TestConsistentWithAPlantedPart(t *testing.T) {
	found := 0
	for n := 1; n <= 33; n++ {
		l := anyLeaves(15, n)
		for m := 1; m <= n; m++ {
			low := firstLow(m, n)
			olds, proofs := lies(l, m)
			for i, old := range olds {
				all := proofs[i]
				if low.from == 0 {
					all = append([]api.Digest{old}, all...)
				}
				up, _ := climbed(strong, l, low, all[0], all[1:])
				for _, x := range up {
					want := extract.Pair{A: x.told, B: x.own}
					is := wantConsistent(t, planted(x.told, x.own), l, m, old, proofs[i])
					if is != (old != headOf(strong, l[:m]) && !bytes.Equal(x.told, x.own)) {
						t.Fatalf("%d of %d leaves: %v of %x and %x", m, n, is, want.A, want.B)
					}
					if is {
						found++
					}
				}
				p, is := extract.Consistent(strong, l, m, old, proofs[i])
				wantNone(t, "another head", p, is)
			}
		}
	}
	if found < 1000 {
		t.Errorf("%d pairs", found)
	}
}

// Texts of the lower nodes that are like do not count, and neither does what is told of the first leaves alone: what is looked at is told of all.
func TestConsistentOfThreeInSeven(t *testing.T) {
	l := anyLeaves(16, 7)
	proof := proofOf(strong, l, 3)
	lie := strong([]byte("a lie"))
	proof[2] = lie
	like := textOf(strong, l[2:4])
	above := extract.Pair{A: nodeText(lie, strong(like)), B: textOf(strong, l[:4])}
	h := planted(above.A, above.B)
	old := h(nodeText(lie, proof[0]))
	p, is := extract.Consistent(h, l, 3, old, proof)
	wantPair(t, "the node of 0-4", h, p, is, above, true)
	whole := extract.Pair{A: nodeText(strong(above.A), proof[3]), B: textOf(strong, l)}
	h = planted(whole.A, whole.B)
	p, is = extract.Consistent(h, l, 3, old, proof)
	wantPair(t, "the node of all", h, p, is, whole, true)
	p, is = extract.Consistent(h, l, 3, headOf(h, l[:3]), proof)
	wantNone(t, "the first three's head", p, is)
	old[0] ^= 1
	p, is = extract.Consistent(h, l, 3, old, proof)
	wantNone(t, "another head than the proof tells", p, is)
}

// Of two places on the way up where there is a pair, the lower one is told.
func TestConsistentTellsTheLowestPair(t *testing.T) {
	l := anyLeaves(17, 8)
	old, lie := strong([]byte("no head")), strong([]byte("a proof that lies twice"))
	proof := proofOf(strong, l, 2)
	first := extract.Pair{A: nodeText(old, proof[0]), B: textOf(strong, l[:4])}
	proof[1] = lie
	above := nodeText(headOf(strong, l[:4]), lie)
	h := func(b []byte) api.Digest {
		if bytes.Equal(b, above) {
			b = textOf(strong, l)
		}
		return planted(first.A, first.B)(b)
	}
	p, is := extract.Consistent(h, l, 2, old, proof)
	wantPair(t, "two pairs", h, p, is, first, true)
}

// Of all leaves the proof is empty, and proves nothing of any other head.
func TestConsistentOfAllLeaves(t *testing.T) {
	for n := 1; n <= 20; n++ {
		l := anyLeaves(18, n)
		for name, h := range weak() {
			for _, old := range []api.Digest{{}, {1}, headOf(h, l), strong(nil)} {
				for many := range 4 {
					p, is := extract.Consistent(h, l, n, old, make([]api.Digest, many))
					wantNone(t, name, p, is)
				}
			}
		}
	}
}

func TestConsistentOfTheHeadThatWas(t *testing.T) {
	for n := 1; n <= 20; n++ {
		l := anyLeaves(19, n)
		for m := 1; m <= n; m++ {
			for name, h := range weak() {
				p, is := extract.Consistent(h, l, m, headOf(h, l[:m]), proofOf(h, l, m))
				wantNone(t, name, p, is)
			}
		}
	}
}

func TestConsistentOfPartsThatMayNotBe(t *testing.T) {
	for n := range 12 {
		l := anyLeaves(20, n)
		for _, m := range []int{0, -1, -2, -n, n + 1, n + 2, 2*n + 2, math.MaxInt32, math.MinInt32, math.MaxInt, math.MinInt} {
			for many := range 6 {
				for _, old := range []api.Digest{{}, {1}, strong(nil), headOf(nought, l)} {
					p, is := extract.Consistent(nought, l, m, old, make([]api.Digest, many))
					wantNone(t, nameOf(l)+", the first "+strconv.Itoa(m), p, is)
				}
			}
		}
	}
}

// sided is a hash by which a head of 1 stays 1 where it is the second half's, and goes where it is the first half's: all else is 0.
func sided(b []byte) api.Digest {
	if len(b) == 65 && b[33] == 1 {
		return api.Digest{1}
	}
	return api.Digest{}
}

// How many hashes a proof has is what chapter 11 tells.
func TestConsistentOfProofsOfOtherLengths(t *testing.T) {
	for n := 1; n <= 70; n++ {
		l := anyLeaves(21, n)
		for m := 1; m < n; m++ {
			ranges, _ := consist.Ranges(uint64(m), uint64(n))
			for many := range 10 {
				proof := make([]api.Digest, many)
				if m&(m-1) != 0 && many > 0 {
					proof[0] = api.Digest{1}
				}
				is := wantConsistent(t, sided, l, m, api.Digest{1}, proof)
				if is != (many == len(ranges)) {
					t.Fatalf("%d of %d leaves, %d hashes: %v", m, n, many, is)
				}
			}
		}
	}
	p, is := extract.Consistent(nought, abc(), 2, api.Digest{1}, make([]api.Digest, 100000))
	wantNone(t, "many hashes", p, is)
}

// P12.5

// What chapters 10 and 11 hold for true of the program's own hash is no pair, as nobody knows one; and where they hold a lie for false, there is none either.
func TestTheHashOfTheProgram(t *testing.T) {
	for n := 1; n <= 20; n++ {
		l := anyLeaves(22, n)
		leaves := merkle.Leaves(l)
		for i := range n {
			path, _ := incl.Path(leaves, uint64(i))
			for _, leaf := range [][]byte{l[i], nil, []byte("x"), l[(i+1)%n]} {
				p, is := extract.Included(strong, l, i, leaf, path)
				wantNone(t, "a path", p, is)
			}
			proof, _ := consist.Proof(leaves, uint64(i+1))
			for _, old := range []api.Digest{merkle.Root(leaves[:i+1]), merkle.Root(leaves[:i]), {}} {
				p, is := extract.Consistent(strong, l, i+1, old, proof)
				wantNone(t, "a proof", p, is)
			}
			p, is := extract.Lists(strong, l, changed(l, i, nil))
			wantNone(t, "lists", p, is)
		}
	}
}

// Whoever shows two lists with one head shows a pair; and whoever shows a path, a proof of what was not.
func TestWhoeverLiesShowsAPair(t *testing.T) {
	var found [3]int
	h := few(4)
	for seed := range 60 {
		l, other := anyLeaves(100+seed, 1+seed%17), anyLeaves(200+seed, 1+seed%11)
		_, is := extract.Lists(h, l, other)
		if is != (headOf(h, l) == headOf(h, other)) {
			t.Fatalf("Lists of %d and %d leaves: %v", len(l), len(other), is)
		}
		if is {
			found[0]++
		}
		for i := range l {
			leaf := []byte{byte(seed)}
			told := h(leafText(leaf))
			path := pathOf(h, l, i)
			_, all := climbed(h, l, part{i, i + 1}, told, path)
			if is := wantIncluded(t, h, l, i, leaf, path); is != (all == headOf(h, l)) {
				t.Fatalf("Included of %d leaves at %d: %v", len(l), i, is)
			} else if is {
				found[1]++
			}
		}
		for m := 1; m < len(l); m++ {
			old := api.Digest{byte(seed % 4)}
			proof := proofOf(h, l, m)
			low := firstLow(m, len(l))
			if low.from > 0 {
				proof[0] = old
				old = toldBehind(h, len(l), low, proof)
			}
			all := slices.Clone(proof)
			if low.from == 0 {
				all = append([]api.Digest{old}, all...)
			}
			_, told := climbed(h, l, low, all[0], all[1:])
			if is := wantConsistent(t, h, l, m, old, proof); is != (told == headOf(h, l) && old != headOf(h, l[:m])) {
				t.Fatalf("Consistent of %d leaves, the first %d: %v", len(l), m, is)
			} else if is {
				found[2]++
			}
		}
	}
	if slices.Min(found[:]) == 0 {
		t.Errorf("%v pairs", found)
	}
}

// The rules that hold everywhere

func TestNoHash(t *testing.T) {
	a, b := abc(), abc()[:1]
	p, is := extract.Lists(nil, a, b)
	wantNone(t, "Lists", p, is)
	p, is = extract.Lists(nil, a, a)
	wantNone(t, "Lists of the same", p, is)
	p, is = extract.Included(nil, a, 1, []byte("x"), make([]api.Digest, 2))
	wantNone(t, "Included", p, is)
	p, is = extract.Included(nil, a, 5, nil, nil)
	wantNone(t, "Included of no leaf", p, is)
	p, is = extract.Consistent(nil, a, 2, api.Digest{1}, make([]api.Digest, 1))
	wantNone(t, "Consistent", p, is)
	p, is = extract.Consistent(nil, nil, 0, api.Digest{}, nil)
	wantNone(t, "Consistent of no leaves", p, is)
}

// asks are calls that ask for the hash of some texts, and that tell something of the hash that is handed in.
func asks() map[string]func(h extract.Hash) (extract.Pair, bool) {
	l := anyLeaves(23, 7)
	two := [2]api.Digest{{1}, {2}}
	return map[string]func(h extract.Hash) (extract.Pair, bool){
		"May": func(h extract.Hash) (extract.Pair, bool) {
			return extract.Pair{}, extract.May(h, extract.Pair{A: []byte("a"), B: []byte("b")})
		},
		"Root": func(h extract.Hash) (extract.Pair, bool) {
			return extract.Pair{}, extract.Root(h, l) != api.Digest{}
		},
		"Lists": func(h extract.Hash) (extract.Pair, bool) {
			return extract.Lists(h, l, changed(l, 6, []byte("x")))
		},
		"Included": func(h extract.Hash) (extract.Pair, bool) {
			return extract.Included(h, l, 4, []byte("x"), make([]api.Digest, 3))
		},
		"Consistent": func(h extract.Hash) (extract.Pair, bool) {
			return extract.Consistent(h, l, 4, two[0], two[1:])
		},
	}
}

// A hash that panics tells nothing, whenever it does so.
func TestHashesThatPanic(t *testing.T) {
	for name, ask := range asks() {
		for _, what := range []any{"a text", errors.New("an error"), nil} {
			for at := range 100 {
				n := 0
				p, is := ask(func(b []byte) api.Digest {
					if n++; n > at {
						panic(what)
					}
					return api.Digest{3}
				})
				if n <= at {
					if !is {
						t.Errorf("%s: tells nothing without a panic", name)
					}
					break
				}
				wantNone(t, name+" with a panic", p, is)
			}
		}
	}
}

// What a hash does with the bytes that it gets, then or later, is to be seen nowhere.
func TestHashesThatWriteAndKeep(t *testing.T) {
	for name, ask := range asks() {
		for seed := range byte(20) {
			plain := func(b []byte) api.Digest { return api.Digest{strong(b)[0] % 2, strong([]byte{seed})[0] % 2} }
			if seed > 5 {
				plain = nought
			}
			var kept [][]byte
			keeps := func(b []byte) api.Digest {
				kept = append(kept, b)
				return plain(b)
			}
			writes := func(b []byte) api.Digest {
				d := plain(b)
				spoil(b)
				return d
			}
			want, wanted := ask(plain)
			got, is := ask(writes)
			wantAnswer(t, name+", a hash that writes", got, is, want, wanted)
			got, is = ask(keeps)
			for _, b := range kept {
				spoil(b)
			}
			wantAnswer(t, name+", a hash that keeps", got, is, want, wanted)
		}
	}
}

// A hash that writes into what it gets changes nothing that was handed in.
func TestHashesThatWriteIntoWhatIsHandedIn(t *testing.T) {
	writes := func(b []byte) api.Digest {
		spoil(b)
		return api.Digest{}
	}
	l, other := copyOf(anyLeaves(27, 5)), copyOf(anyLeaves(28, 5))
	pair, leaf := extract.Pair{A: []byte("a"), B: []byte("b")}, []byte("leaf")
	extract.May(writes, pair)
	extract.Root(writes, l)
	extract.Lists(writes, l, other)
	extract.Included(writes, l, 4, leaf, make([]api.Digest, 1))
	extract.Consistent(writes, l, 4, api.Digest{1}, make([]api.Digest, 1))
	if string(pair.A) != "a" || string(pair.B) != "b" || string(leaf) != "leaf" {
		t.Errorf("got %q, %q, %q", pair.A, pair.B, leaf)
	}
	if !same(l, anyLeaves(27, 5)) || !same(other, anyLeaves(28, 5)) {
		t.Error("leaves were changed")
	}
}

// What is handed in is only read, and what is answered shares nothing with it, nor with itself.
func TestMemory(t *testing.T) {
	l := copyOf(anyLeaves(24, 7))
	other := changed(copyOf(l), 2, []byte("x"))
	leaf, one := []byte("y"), api.Digest{1}
	path, proof := make([]api.Digest, 3, 5), make([]api.Digest, 1, 3)
	pair := extract.Pair{A: []byte("a"), B: []byte("b")}
	ask := func() []extract.Pair {
		lists, _ := extract.Lists(nought, l, other)
		leaves, _ := extract.Lists(nought, l[:1], other[2:3])
		included, _ := extract.Included(nought, l, 1, leaf, path)
		consistent, _ := extract.Consistent(nought, l, 4, one, proof)
		if !extract.May(nought, pair) || extract.Root(nought, l) != (api.Digest{}) {
			t.Error("May, Root")
		}
		return []extract.Pair{lists, leaves, included, consistent}
	}
	first := ask()
	want := ask()
	for i, p := range first {
		if len(p.A) == 0 || len(p.B) == 0 {
			t.Fatalf("%d: no pair", i)
		}
		keep := slices.Clone(p.B)
		spoil(p.A)
		if !bytes.Equal(p.B, keep) {
			t.Errorf("%d: both texts share memory", i)
		}
		spoil(p.B)
	}
	for i, p := range ask() {
		wantAnswer(t, "call "+strconv.Itoa(i), p, true, want[i], true)
	}
	if !same(l, anyLeaves(24, 7)) || !same(other, changed(anyLeaves(24, 7), 2, []byte("x"))) || string(leaf) != "y" {
		t.Error("leaves were changed")
	}
	if one != (api.Digest{1}) || !slices.Equal(path[:5], make([]api.Digest, 5)) || !slices.Equal(proof[:3], make([]api.Digest, 3)) {
		t.Error("hashes were changed")
	}
	if string(pair.A) != "a" || string(pair.B) != "b" {
		t.Error("a pair was changed")
	}
}

// A pair that was answered stays, whatever becomes of what was handed in.
func TestAnswersStay(t *testing.T) {
	l, other, leaf := copyOf(anyLeaves(25, 3)), copyOf(anyLeaves(26, 3)), []byte("leaf")
	path, proof := make([]api.Digest, 2), make([]api.Digest, 1)
	lists, _ := extract.Lists(nought, l, other)
	included, _ := extract.Included(nought, l, 2, leaf, path[:1])
	consistent, _ := extract.Consistent(nought, l, 2, api.Digest{1}, proof)
	pairs := []extract.Pair{lists, included, consistent}
	var want []extract.Pair
	for _, p := range pairs {
		want = append(want, extract.Pair{A: slices.Clone(p.A), B: slices.Clone(p.B)})
	}
	for _, b := range slices.Concat(l, other, [][]byte{leaf}) {
		spoil(b)
	}
	path[0], proof[0] = api.Digest{9}, api.Digest{9}
	for i, p := range pairs {
		wantAnswer(t, "call "+strconv.Itoa(i), p, len(p.A) > 0, want[i], true)
	}
}

// What is answered hangs on what was called alone.
func TestManyAtOnce(t *testing.T) {
	var all sync.WaitGroup
	for range 8 {
		all.Go(func() {
			for seed := range 30 {
				l := anyLeaves(seed, 1+seed)
				h := few(2)
				got, is := extract.Included(h, l, seed/2, []byte("x"), pathOf(h, l, seed/2))
				want, wanted := pairOfPath(h, l, seed/2, []byte("x"), pathOf(h, l, seed/2))
				wantAnswer(t, nameOf(l), got, is, want, wanted)
			}
		})
	}
	all.Wait()
}

// The chapter names no greatest number of leaves: what it tells holds beyond a log's, too.
func TestMoreLeavesThanALogHas(t *testing.T) {
	l := make([][]byte, api.MaxLeaves+1)
	other := changed(l, api.MaxLeaves-1, []byte("x"))
	if got := extract.Root(nought, l); got != (api.Digest{}) {
		t.Errorf("Root: got %x", got)
	}
	want := extract.Pair{A: []byte{0}, B: []byte("\x00x")}
	p, is := extract.Lists(nought, l, other)
	wantPair(t, "Lists", nought, p, is, want, true)
	p, is = extract.Included(nought, l, api.MaxLeaves, []byte("x"), make([]api.Digest, 1))
	wantPair(t, "Included", nought, p, is, extract.Pair{A: want.B, B: want.A}, true)
	one := api.Digest{1}
	p, is = extract.Consistent(nought, l, api.MaxLeaves, one, make([]api.Digest, 1))
	wantPair(t, "Consistent", nought, p, is, extract.Pair{A: nodeText(one, api.Digest{}), B: nodeText(api.Digest{}, api.Digest{})}, true)
}

// Whatever comes in

func FuzzExtract(f *testing.F) {
	f.Add([]byte("abcdefgh"), []byte("abcdefg"), 3, byte(2), byte(1))
	f.Add([]byte(""), []byte("a"), 0, byte(1), byte(0))
	f.Add([]byte("aab"), []byte("aaa"), -1, byte(3), byte(2))
	f.Fuzz(func(t *testing.T, a, b []byte, at int, values, old byte) {
		a, b = a[:min(len(a), 40)], b[:min(len(b), 40)]
		h := few(1 + values%4)
		l, other := leavesOf(a), leavesOf(b)
		wantLists(t, h, l, other)
		var hashes []api.Digest
		for _, x := range b {
			hashes = append(hashes, api.Digest{x % 4})
		}
		for many := range min(len(hashes), 8) + 1 {
			wantIncluded(t, h, l, at, b, hashes[:many])
			wantConsistent(t, h, l, at, api.Digest{old % 4}, hashes[:many])
			if len(l) > 0 {
				in := int(uint(at) % uint(len(l)))
				wantIncluded(t, h, l, in, b, hashes[:many])
				wantConsistent(t, h, l, in+1, api.Digest{old % 4}, hashes[:many])
			}
		}
	})
}

// leavesOf are leaves of as many bytes as each byte tells.
func leavesOf(b []byte) [][]byte {
	var out [][]byte
	for i, x := range b {
		out = append(out, b[i:min(len(b), i+int(x%3))])
	}
	return out
}
