package consist_test

import (
	"math"
	"slices"
	"sync"
	"testing"

	"escritoire/api"
	"escritoire/consist"
	"escritoire/incl"
	"escritoire/merkle"
)

// What each promise is held against are limits of the tests' own, which are the given ones.
func TestLimits(t *testing.T) {
	if api.MaxLeaves != mostLeaves {
		t.Fatalf("%d leaves at most", api.MaxLeaves)
	}
}

// P11.1: Ranges

func TestRangesOfKnownParts(t *testing.T) {
	wantRanges(t, part{3, 7}, []incl.Range{r(2, 3), r(3, 4), r(0, 2), r(4, 7)})
	wantRanges(t, part{4, 7}, []incl.Range{r(4, 7)})
	wantRanges(t, part{6, 7}, []incl.Range{r(4, 6), r(6, 7), r(0, 4)})
	wantRanges(t, part{5, 7}, []incl.Range{r(4, 5), r(5, 6), r(6, 7), r(0, 4)})
	wantRanges(t, part{1, 7}, []incl.Range{r(1, 2), r(2, 4), r(4, 7)})
	wantRanges(t, part{2, 3}, []incl.Range{r(2, 3)})
	wantRanges(t, part{1, 2}, []incl.Range{r(1, 2)})
	wantRanges(t, part{9, 10}, []incl.Range{r(8, 9), r(9, 10), r(0, 8)})
	wantRanges(t, part{7, 7}, nil)
	wantRanges(t, part{1, 1}, nil)
	wantRanges(t, part{mostLeaves, mostLeaves}, nil)
	wantRanges(t, part{mostLeaves / 2, mostLeaves}, []incl.Range{r(mostLeaves/2, mostLeaves)})
	wantRanges(t, part{mostLeaves - 1, mostLeaves}, rangesOf(part{mostLeaves - 1, mostLeaves}))
	wantNoRanges(t, part{8, 7})
	wantNoRanges(t, part{1, 0})
}

// Of no leaves there is nothing to prove, in whatever tree that may be.
func TestRangesOfNoLeaves(t *testing.T) {
	for _, n := range []uint64{0, 1, 2, 7, 8, mostLeaves - 1, mostLeaves} {
		wantRanges(t, part{0, n}, nil)
	}
	wantNoRanges(t, part{0, mostLeaves + 1})
	wantNoRanges(t, part{0, math.MaxUint64})
}

func TestRangesOfSmallTrees(t *testing.T) {
	for _, p := range small(300) {
		wantRanges(t, p, rangesOf(p))
	}
}

func TestRangesOfGreatTrees(t *testing.T) {
	for _, p := range great(mostLeaves) {
		wantRanges(t, p, rangesOf(p))
	}
}

func TestRangesOfPartsThatMayNotBe(t *testing.T) {
	for _, p := range bad() {
		wantNoRanges(t, p)
	}
}

// P11.1: Proof

func TestKnownProofs(t *testing.T) {
	var leaves []api.Digest
	for _, text := range knownLeaves {
		leaves = append(leaves, merkle.Leaf(bytesIn(t, text)))
	}
	for _, x := range known {
		var proof []api.Digest
		for _, text := range x.proof {
			proof = append(proof, hashIn(t, text))
		}
		old, anew := hashIn(t, knownHeads[x.part.m-1]), hashIn(t, knownHeads[x.part.n-1])
		wantProof(t, leaves[:x.part.n], x.part.m, proof)
		wantHeads(t, x.part, old, proof, heads{old, anew})
	}
}

func TestKnownHeads(t *testing.T) {
	var leaves []api.Digest
	for _, text := range knownLeaves {
		leaves = append(leaves, merkle.Leaf(bytesIn(t, text)))
	}
	for _, p := range small(8) {
		h := heads{hashIn(t, knownHeads[p.m-1]), hashIn(t, knownHeads[p.n-1])}
		proof, e := consist.Proof(leaves[:p.n], p.m)
		if e != api.OK {
			t.Fatalf("Proof(%d leaves, %d): error %d", p.n, p.m, e)
		}
		wantHeads(t, p, h.old, proof, h)
	}
}

// RFC 6962 tells these of seven leaves (2.1.3).
func TestProofsOfSevenLeaves(t *testing.T) {
	l := anyHashes(1, 7)
	first, second := merkle.Node(l[0], l[1]), merkle.Node(l[2], l[3])
	third := merkle.Node(l[4], l[5])
	wantProof(t, l, 3, []api.Digest{l[2], l[3], first, merkle.Node(third, l[6])})
	wantProof(t, l, 4, []api.Digest{merkle.Node(third, l[6])})
	wantProof(t, l, 6, []api.Digest{third, l[6], merkle.Node(first, second)})
	wantProof(t, l, 7, nil)
	wantProof(t, l, 0, nil)
	wantNoProof(t, l, 8)
}

func TestProofsOfSmallTrees(t *testing.T) {
	l := anyHashes(2, 80)
	for _, p := range small(80) {
		wantProof(t, l[:p.n], p.m, proofOf(l[:p.n], p.m, true))
	}
}

func TestProofsOfGreatTrees(t *testing.T) {
	l := anyHashes(3, 600)
	for _, p := range great(600) {
		wantProof(t, l[:p.n], p.m, proofOf(l[:p.n], p.m, true))
	}
}

func TestProofsOfNoLeaves(t *testing.T) {
	l := anyHashes(4, 20)
	for n := range l {
		wantProof(t, inRoom(l[:n]), 0, nil)
	}
	wantProof(t, nil, 0, nil)
}

// Leaves that are the same stand at places of their own nonetheless.
func TestProofsOfTheSameLeaf(t *testing.T) {
	for _, x := range []api.Digest{{}, merkle.Root(nil)} {
		l := slices.Repeat([]api.Digest{x}, 40)
		for _, p := range small(40) {
			wantProof(t, l[:p.n], p.m, proofOf(l[:p.n], p.m, true))
		}
	}
}

func TestProofsOfPartsThatMayNotBe(t *testing.T) {
	l := anyHashes(5, 100)
	for _, none := range [][]api.Digest{nil, {}, inRoom(nil)} {
		for _, m := range []uint64{1, 2, math.MaxUint64} {
			wantNoProof(t, none, m)
		}
	}
	for n := range l {
		for _, m := range []int{n + 1, n + 2, 2*n + 1, 101} {
			wantNoProof(t, inRoom(l[:n]), uint64(m))
		}
		for _, m := range []uint64{mostLeaves, mostLeaves + 1, 1 << 31, 1 << 32, 1<<32 + 1, 1 << 63, 1<<63 + 1, math.MaxUint64 - 1, math.MaxUint64} {
			wantNoProof(t, inRoom(l[:n]), m)
		}
	}
}

// So many leaves are the most that there may be: with one more, no part has a proof, not even the empty one.
func TestProofsOfMostLeaves(t *testing.T) {
	l := anyHashes(6, mostLeaves+1)
	all := l[:mostLeaves]
	levels := merkle.Levels(all)
	odd := uint64(mostLeaves/2 + 12345)
	want := []api.Digest{all[odd-1]}
	for i := range mostHashes - 1 {
		want = append(want, levels[i][(odd-1)>>i^1])
	}
	wantProof(t, all, odd, want)
	wantHeads(t, part{odd, mostLeaves}, merkle.Root(all[:odd]), want, heads{merkle.Root(all[:odd]), levels[mostHashes-1][0]})
	wantProof(t, all, mostLeaves/2, levels[mostHashes-2][1:])
	wantProof(t, all, mostLeaves, nil)
	wantProof(t, all, 0, nil)
	wantNoProof(t, all, mostLeaves+1)
	for _, m := range []uint64{0, 1, mostLeaves / 2, mostLeaves, mostLeaves + 1, mostLeaves + 2} {
		wantNoProof(t, l, m)
	}
	wantNoProof(t, append(l, l...), 1)
}

// P11.2, P11.3

func TestHeadsOfSevenLeaves(t *testing.T) {
	x, proof := api.Digest{1}, anyHashes(7, 4)
	a, b, c, d := proof[0], proof[1], proof[2], proof[3]
	older := merkle.Node(c, a)
	wantHeads(t, part{3, 7}, older, proof, heads{older, merkle.Node(merkle.Node(c, merkle.Node(a, b)), d)})
	wantHeads(t, part{4, 7}, x, proof[:1], heads{x, merkle.Node(x, a)})
	older = merkle.Node(c, a)
	wantHeads(t, part{6, 7}, older, proof[:3], heads{older, merkle.Node(c, merkle.Node(a, b))})
	older = merkle.Node(d, a)
	wantHeads(t, part{5, 7}, older, proof, heads{older, merkle.Node(d, merkle.Node(merkle.Node(a, b), c))})
	wantHeads(t, part{2, 7}, x, proof[:2], heads{x, merkle.Node(merkle.Node(x, a), b)})
}

// The proof of a whole tree has nothing: the older head is the head of all.
func TestHeadsOfWholeTrees(t *testing.T) {
	for _, n := range []uint64{1, 2, 3, 4, 7, 8, 100, mostLeaves - 1, mostLeaves} {
		for _, old := range append(anyHashes(8, 3), api.Digest{}, merkle.Root(nil)) {
			for _, none := range [][]api.Digest{nil, {}, inRoom(nil)} {
				wantHeads(t, part{n, n}, old, none, heads{old, old})
			}
			wantNoHeads(t, part{n, n}, old, []api.Digest{old})
			for _, other := range others(old) {
				wantVerify(t, part{n, n}, heads{other, old}, nil, false)
			}
		}
	}
}

// Whatever the hashes are, they are taken as they are, if they are as many as the ranges.
func TestHeadsOfAnyHashes(t *testing.T) {
	for i, p := range append(small(100), great(mostLeaves)...) {
		old, proof := api.Digest{2, byte(i)}, anyHashes(uint64(i), len(rangesOf(p)))
		want, is := headsOf(p, old, proof)
		if !is {
			t.Fatalf("%d hashes are not a proof of %d in %d", len(proof), p.m, p.n)
		}
		wantHeads(t, p, old, proof, want)
		wantHeads(t, p, want.old, proof, want)
	}
}

// The older head that is handed in counts just where the proof leaves it out.
func TestHeadsOfOtherOlderHeads(t *testing.T) {
	for _, p := range small(40) {
		proof := anyHashes(9, len(rangesOf(p)))
		one, other := api.Digest{3}, api.Digest{4}
		a, b, _ := consist.Heads(p.m, p.n, one, proof)
		c, d, _ := consist.Heads(p.m, p.n, other, proof)
		if left := isPower(p.m) || p.m == p.n; left != (a != c) || left != (b != d) || left != (a == one) {
			t.Fatalf("Heads(%d, %d): %x, %x of one older head, and %x, %x of another one", p.m, p.n, a, b, c, d)
		}
	}
}

func TestHeadsOfTheSameHash(t *testing.T) {
	for _, x := range []api.Digest{{}, merkle.Root(nil)} {
		for _, p := range small(40) {
			proof := slices.Repeat([]api.Digest{x}, len(rangesOf(p)))
			want, _ := headsOf(p, x, proof)
			wantHeads(t, p, x, proof, want)
		}
	}
}

func TestHeadsOfAnotherNumberOfHashes(t *testing.T) {
	hashes := anyHashes(10, 64)
	for _, p := range append(small(40), great(mostLeaves)...) {
		right := len(rangesOf(p))
		for _, n := range []int{0, 1, right - 1, right + 1, right + 2, 2 * right, mostHashes, mostHashes + 1, 32, 64} {
			if n >= 0 && n != right {
				wantNoHeads(t, p, hashes[63], hashes[:n])
			}
		}
		if right > 0 { // to reach into the room behind the hashes is wrong, too
			wantNoHeads(t, p, hashes[63], inRoom(hashes[:right-1]))
		}
	}
}

func TestHeadsOfPartsThatMayNotBe(t *testing.T) {
	hashes := anyHashes(11, 65)
	for _, p := range bad() {
		for _, n := range []int{0, 1, 2, 3, 7, 20, 21, 22, 31, 32, 33, 52, 53, 62, 63, 64} {
			wantNoHeads(t, p, hashes[64], hashes[:n])
		}
	}
}

func TestHeadsOfNoLeaves(t *testing.T) {
	hashes := anyHashes(12, 30)
	for _, n := range []uint64{0, 1, 2, 7, 8, mostLeaves, mostLeaves + 1, math.MaxUint64} {
		for many := range hashes {
			wantNoHeads(t, part{0, n}, merkle.Root(nil), hashes[:many])
			wantNoHeads(t, part{0, n}, api.Digest{}, hashes[:many])
		}
	}
}

// P11.3

// Every tree that may be begins with the empty one, whatever its head is.
func TestVerifyOfNoLeaves(t *testing.T) {
	empty := hashIn(t, "e3b0c44298fc1c149afbf4c8996fb92427ae41e4649b934ca495991b7852b855")
	for _, n := range []uint64{0, 1, 2, 7, 8, mostLeaves - 1, mostLeaves} {
		for _, anew := range append(anyHashes(13, 3), api.Digest{}, empty) {
			wantVerify(t, part{0, n}, heads{empty, anew}, nil, true)
			wantVerify(t, part{0, n}, heads{empty, anew}, inRoom(nil), true)
			for _, x := range []api.Digest{{}, empty, anew} {
				wantVerify(t, part{0, n}, heads{empty, anew}, []api.Digest{x}, false)
			}
			for _, old := range append(others(empty), anyHashes(13, 4)...) {
				wantVerify(t, part{0, n}, heads{old, anew}, nil, false)
			}
		}
	}
	for _, n := range []uint64{mostLeaves + 1, 1 << 32, 1 << 63, math.MaxUint64} {
		for _, anew := range append(anyHashes(13, 3), api.Digest{}, empty) {
			wantVerify(t, part{0, n}, heads{empty, anew}, nil, false)
			wantVerify(t, part{0, n}, heads{anew, anew}, nil, false)
		}
	}
}

// A proof is held for that of any part of a small tree: it is verified just where it tells both heads.
func TestVerifyOfOtherParts(t *testing.T) {
	l := anyHashes(14, 20)
	parts := append(small(20), part{21, 20}, part{2, 1}, part{1, mostLeaves + 1}, part{mostLeaves + 1, mostLeaves + 1})
	for _, p := range small(20) {
		proof := proofOf(l[:p.n], p.m, true)
		h := heads{merkle.Root(l[:p.m]), merkle.Root(l[:p.n])}
		for _, other := range parts {
			want := false
			if may(other) {
				told, is := headsOf(other, h.old, proof)
				want = is && told == h
			}
			wantVerify(t, other, h, proof, want)
		}
	}
}

func TestVerifyOfOtherHeadsAndHashes(t *testing.T) {
	l := anyHashes(15, 33)
	for _, p := range small(33) {
		proof := proofOf(l[:p.n], p.m, true)
		h := heads{merkle.Root(l[:p.m]), merkle.Root(l[:p.n])}
		wantVerify(t, p, h, proof, true)
		wantVerify(t, p, heads{h.anew, h.old}, proof, p.m == p.n)
		for _, other := range others(h.old) {
			wantVerify(t, p, heads{other, h.anew}, proof, false)
		}
		for i := range proof {
			for _, other := range others(proof[i]) {
				changed := slices.Clone(proof)
				changed[i] = other
				wantVerify(t, p, h, changed, false)
			}
			wantVerify(t, p, h, slices.Delete(slices.Clone(proof), i, i+1), false)
			wantVerify(t, p, h, slices.Insert(slices.Clone(proof), i, proof[i]), false)
		}
		if len(proof) > 1 {
			slices.Reverse(proof)
			wantVerify(t, p, h, proof, false)
		}
	}
}

// A proof that tells one of both heads, and not the other one, is none.
func TestVerifyOfForkedTrees(t *testing.T) {
	l := anyHashes(16, 33)
	for _, p := range small(33) {
		fork := slices.Clone(l[:p.n])
		fork[p.m-1] = api.Digest{5}
		one, other := proofOf(l[:p.n], p.m, true), proofOf(fork, p.m, true)
		h, forked := heads{merkle.Root(l[:p.m]), merkle.Root(l[:p.n])}, heads{merkle.Root(fork[:p.m]), merkle.Root(fork)}
		for _, proof := range [][]api.Digest{one, other} {
			wantVerify(t, p, heads{h.old, forked.anew}, proof, false)
			wantVerify(t, p, heads{forked.old, h.anew}, proof, false)
		}
	}
}

// P11.4

func TestProofsAreVerified(t *testing.T) {
	l := anyHashes(17, 300)
	for _, p := range append(small(70), great(300)...) {
		tree := l[:p.n]
		proof, e := consist.Proof(tree, p.m)
		if e != api.OK {
			t.Fatalf("Proof(%d leaves, %d): error %d", p.n, p.m, e)
		}
		old := merkle.Root(tree[:p.m])
		wantHeads(t, p, old, proof, heads{old, merkle.Root(tree)})
	}
	for n := range l {
		proof, e := consist.Proof(l[:n], 0)
		if e != api.OK {
			t.Fatalf("Proof(%d leaves, 0): error %d", n, e)
		}
		wantVerify(t, part{0, uint64(n)}, heads{merkle.Root(nil), merkle.Root(l[:n])}, proof, true)
	}
}

// As no two unlike texts with one hash are known, no two older heads are told by one proof with one head of all.
func TestOlderHeadsOfOneProofHaveHeadsOfTheirOwn(t *testing.T) {
	olds := append(anyHashes(18, 10), api.Digest{}, merkle.Root(nil))
	for i, p := range append(small(20), great(mostLeaves)...) {
		proof := anyHashes(uint64(1000+i), len(rangesOf(p)))
		told := map[api.Digest]api.Digest{}
		for _, old := range append(olds, proof...) {
			a, b, e := consist.Heads(p.m, p.n, old, proof)
			if before, is := told[b]; e != api.OK || is && before != a {
				t.Fatalf("Heads(%d, %d): error %d, or two older heads with %x: %x, %x", p.m, p.n, e, b, before, a)
			}
			told[b] = a
		}
	}
}

// P11.5

func TestRangesCoverTheTree(t *testing.T) {
	most := 0
	for _, p := range append(small(200), great(mostLeaves)...) {
		got, e := consist.Ranges(p.m, p.n)
		if e != api.OK || len(got) > mostHashes {
			t.Fatalf("Ranges(%d, %d): %d, error %d", p.m, p.n, len(got), e)
		}
		wantCovers(t, p, got)
		most = max(most, len(got))
	}
	if most != mostHashes {
		t.Errorf("a proof has up to %d ranges, want %d", most, mostHashes)
	}
}

// R3

// What is handed in has room behind it, which an append in place would write to.
func TestWhatIsHandedInIsOnlyRead(t *testing.T) {
	l := anyHashes(19, 20)
	for _, p := range append(small(20), part{0, 20}, part{21, 20}) {
		tree := inRoom(l[:p.n])
		before := slices.Clone(tree[:cap(tree)])
		proof, _ := consist.Proof(tree, p.m)
		proof = inRoom(proof)
		again := slices.Clone(proof[:cap(proof)])
		old := merkle.Root(l[:min(p.m, p.n)])
		consist.Heads(p.m, p.n, old, proof)
		consist.Verify(p.m, p.n, old, merkle.Root(tree), proof)
		if !slices.Equal(tree[:cap(tree)], before) || !slices.Equal(proof[:cap(proof)], again) {
			t.Fatalf("%d of %d: what was handed in has changed", p.m, p.n)
		}
	}
}

func TestWhatIsAnsweredIsNewMemory(t *testing.T) {
	l := anyHashes(20, 20)
	for _, p := range small(20) {
		tree := inRoom(l[:p.n])
		before := slices.Clone(tree[:cap(tree)])
		want := proofOf(tree, p.m, true)
		one, _ := consist.Proof(tree, p.m)
		two, _ := consist.Proof(tree, p.m)
		spoil(one)
		if !slices.Equal(two, want) || !slices.Equal(tree[:cap(tree)], before) {
			t.Fatalf("%d of %d: a proof shares memory with another one, or with the leaves", p.m, p.n)
		}
		spoil(tree)
		if !slices.Equal(two, want) {
			t.Fatalf("%d of %d: a proof shares memory with the leaves", p.m, p.n)
		}
		ranges, _ := consist.Ranges(p.m, p.n)
		ranges = ranges[:cap(ranges)]
		for i := range ranges {
			ranges[i] = r(99, 98)
		}
		wantRanges(t, p, rangesOf(p))
	}
}

// R7

func TestManyAtOnce(t *testing.T) {
	l := anyHashes(21, 50)
	var all sync.WaitGroup
	for g := range uint64(8) {
		all.Go(func() {
			for _, p := range small(33 + g) {
				tree := l[:p.n]
				proof, e := consist.Proof(tree, p.m)
				ranges, f := consist.Ranges(p.m, p.n)
				if e != api.OK || f != api.OK || !slices.Equal(ranges, rangesOf(p)) {
					t.Errorf("Ranges(%d, %d), among others: %v, errors %d, %d", p.m, p.n, ranges, e, f)
				}
				if !consist.Verify(p.m, p.n, merkle.Root(tree[:p.m]), merkle.Root(tree), proof) {
					t.Errorf("Verify(%d, %d), among others, tells false", p.m, p.n)
				}
			}
		})
	}
	all.Wait()
}

func FuzzRanges(f *testing.F) {
	for _, p := range append(great(mostLeaves)[:100], bad()...) {
		f.Add(p.m, p.n)
	}
	f.Add(uint64(0), uint64(0))
	f.Add(uint64(0), uint64(7))
	f.Fuzz(func(t *testing.T, m, n uint64) {
		p := part{m, n}
		if !may(p) {
			wantNoRanges(t, p)
			wantNoHeads(t, p, api.Digest{1}, nil)
			return
		}
		want := rangesOf(p)
		wantRanges(t, p, want)
		if m > 0 {
			wantCovers(t, p, want)
		}
	})
}

// The bytes are the older head and the proof's hashes.
func FuzzHeads(f *testing.F) {
	f.Add(make([]byte, api.Hash), uint64(1), uint64(1))
	f.Add(make([]byte, api.Hash), uint64(0), uint64(1))
	f.Add(make([]byte, 5*api.Hash), uint64(3), uint64(7))
	f.Add(make([]byte, 4*api.Hash), uint64(3), uint64(7))
	f.Add(make([]byte, 2*api.Hash), uint64(4), uint64(7))
	f.Add(make([]byte, 22*api.Hash), uint64(12345), uint64(mostLeaves))
	f.Add(make([]byte, 22*api.Hash), uint64(1), uint64(mostLeaves+1))
	f.Add(make([]byte, 66*api.Hash), uint64(math.MaxUint64-1), uint64(math.MaxUint64))
	f.Fuzz(func(t *testing.T, b []byte, m, n uint64) {
		hashes := hashesOf(b)
		if len(hashes) == 0 {
			return
		}
		old, proof, p := hashes[0], inRoom(hashes[1:]), part{m, n}
		if !may(p) || m == 0 {
			wantNoHeads(t, p, old, proof)
			return
		}
		if want, is := headsOf(p, old, proof); is {
			wantHeads(t, p, old, proof, want)
			return
		}
		wantNoHeads(t, p, old, proof)
	})
}

func FuzzProof(f *testing.F) {
	f.Add([]byte{}, uint64(0))
	f.Add([]byte{}, uint64(1))
	f.Add(make([]byte, api.Hash), uint64(1))
	f.Add(make([]byte, 7*api.Hash), uint64(3))
	f.Add(make([]byte, 17*api.Hash), uint64(16))
	f.Add(make([]byte, 17*api.Hash), uint64(18))
	f.Add(make([]byte, 3*api.Hash), uint64(math.MaxUint64))
	f.Fuzz(func(t *testing.T, b []byte, m uint64) {
		leaves := inRoom(hashesOf(b))
		p := part{m, uint64(len(leaves))}
		if !may(p) {
			wantNoProof(t, leaves, m)
			return
		}
		if m == 0 {
			wantProof(t, leaves, m, nil)
			return
		}
		want, old := proofOf(leaves, m, true), merkle.Root(leaves[:m])
		wantProof(t, leaves, m, want)
		wantHeads(t, p, old, want, heads{old, merkle.Root(leaves)})
	})
}
