package incl_test

import (
	"math"
	"slices"
	"sync"
	"testing"

	"escritoire/api"
	"escritoire/incl"
	"escritoire/merkle"
)

// What each promise is held against are limits of the tests' own, which are the given ones.
func TestLimits(t *testing.T) {
	if api.MaxLeaves != mostLeaves {
		t.Fatalf("%d leaves at most", api.MaxLeaves)
	}
}

// P10.1: Ranges

func TestRangesOfKnownPlaces(t *testing.T) {
	wantRanges(t, place{0, 7}, []incl.Range{{1, 2}, {2, 4}, {4, 7}})
	wantRanges(t, place{5, 7}, []incl.Range{{4, 5}, {6, 7}, {0, 4}})
	wantRanges(t, place{6, 7}, []incl.Range{{4, 6}, {0, 4}})
	wantRanges(t, place{0, 1}, nil)
	wantRanges(t, place{0, 2}, []incl.Range{{1, 2}})
	wantRanges(t, place{1, 2}, []incl.Range{{0, 1}})
	wantRanges(t, place{2, 3}, []incl.Range{{0, 2}})
	wantRanges(t, place{8, 9}, []incl.Range{{0, 8}})
	wantRanges(t, place{mostLeaves - 1, mostLeaves}, rangesOf(place{mostLeaves - 1, mostLeaves}))
	wantNoRanges(t, place{1, 1})
	wantNoRanges(t, place{7, 7})
	wantNoRanges(t, place{0, 0})
}

func TestRangesOfSmallTrees(t *testing.T) {
	for _, p := range small(300) {
		wantRanges(t, p, rangesOf(p))
	}
}

func TestRangesOfGreatTrees(t *testing.T) {
	for _, p := range great(mostLeaves) {
		wantRanges(t, p, rangesOf(p))
	}
}

func TestRangesOfPlacesThatMayNotBe(t *testing.T) {
	for _, p := range bad() {
		wantNoRanges(t, p)
	}
}

// P10.1: Path

func TestKnownPaths(t *testing.T) {
	var leaves []api.Digest
	for _, text := range knownLeaves {
		leaves = append(leaves, merkle.Leaf(bytesIn(t, text)))
	}
	for _, x := range known {
		var path []api.Digest
		for _, text := range x.path {
			path = append(path, api.Digest(bytesIn(t, text)))
		}
		wantPath(t, leaves[:x.size], x.index, path)
		wantHead(t, leaves[x.index], place{x.index, x.size}, path, api.Digest(bytesIn(t, x.head)))
	}
}

func TestPathOfSevenLeaves(t *testing.T) {
	l := anyHashes(1, 7)
	first, second := merkle.Node(l[0], l[1]), merkle.Node(l[2], l[3])
	third := merkle.Node(l[4], l[5])
	wantPath(t, l, 0, []api.Digest{l[1], second, merkle.Node(third, l[6])})
	wantPath(t, l, 5, []api.Digest{l[4], l[6], merkle.Node(first, second)})
	wantPath(t, l, 6, []api.Digest{third, merkle.Node(first, second)})
	wantPath(t, l[:1], 0, nil)
	wantNoPath(t, l[:1], 1)
}

func TestPathsOfSmallTrees(t *testing.T) {
	l := anyHashes(2, 80)
	for _, p := range small(80) {
		wantPath(t, l[:p.size], p.index, pathOf(l[:p.size], p.index))
	}
}

func TestPathsOfGreatTrees(t *testing.T) {
	l := anyHashes(3, 600)
	for _, p := range great(600) {
		wantPath(t, l[:p.size], p.index, pathOf(l[:p.size], p.index))
	}
}

// Leaves that are the same stand at places of their own nonetheless.
func TestPathsOfTheSameLeaf(t *testing.T) {
	for _, x := range []api.Digest{{}, merkle.Root(nil)} {
		l := slices.Repeat([]api.Digest{x}, 40)
		for _, p := range small(40) {
			wantPath(t, l[:p.size], p.index, pathOf(l[:p.size], p.index))
		}
	}
}

func TestPathsOfPlacesThatMayNotBe(t *testing.T) {
	l := anyHashes(4, 100)
	for _, none := range [][]api.Digest{nil, {}, inRoom(nil)} {
		for _, index := range []uint64{0, 1, 2, math.MaxUint64} {
			wantNoPath(t, none, index)
		}
	}
	for n := range l {
		for _, index := range []int{n, n + 1, n + 2, 2 * n, 100} {
			if index >= n {
				wantNoPath(t, inRoom(l[:n]), uint64(index))
			}
		}
		for _, index := range []uint64{mostLeaves, 1 << 31, 1 << 32, 1<<32 + 1, 1 << 63, 1<<63 + 1, math.MaxUint64 - 1, math.MaxUint64} {
			wantNoPath(t, inRoom(l[:n]), index)
		}
	}
}

// So many leaves are the most that there may be: with one more, no index has a path.
func TestPathOfMostLeaves(t *testing.T) {
	l := anyHashes(5, mostLeaves+1)
	all := l[:mostLeaves]
	levels := merkle.Levels(all)
	for _, index := range []uint64{0, mostLeaves/2 + 12345} {
		var want []api.Digest
		for i := range mostHashes {
			want = append(want, levels[i][index>>i^1])
		}
		wantPath(t, all, index, want)
		wantHead(t, all[index], place{index, mostLeaves}, want, levels[mostHashes][0])
	}
	wantNoPath(t, all, mostLeaves)
	for _, index := range []uint64{0, 1, mostLeaves - 1, mostLeaves, mostLeaves + 1} {
		wantNoPath(t, l, index)
	}
	wantNoPath(t, append(l, l...), 0)
}

// P10.2, P10.3

func TestHeadOfSevenLeaves(t *testing.T) {
	leaf, path := api.Digest{1}, anyHashes(6, 3)
	wantHead(t, leaf, place{0, 7}, path, merkle.Node(merkle.Node(merkle.Node(leaf, path[0]), path[1]), path[2]))
	wantHead(t, leaf, place{5, 7}, path, merkle.Node(path[2], merkle.Node(merkle.Node(path[0], leaf), path[1])))
	wantHead(t, leaf, place{6, 7}, path[:2], merkle.Node(path[1], merkle.Node(path[0], leaf)))
}

func TestHeadOfOneLeafIsTheLeaf(t *testing.T) {
	for _, leaf := range append(anyHashes(7, 5), api.Digest{}, merkle.Root(nil)) {
		wantHead(t, leaf, place{0, 1}, nil, leaf)
		wantHead(t, leaf, place{0, 1}, []api.Digest{}, leaf)
		wantHead(t, leaf, place{0, 1}, inRoom(nil), leaf)
		wantNoHead(t, leaf, place{0, 1}, []api.Digest{leaf})
		wantNoHead(t, leaf, place{1, 1}, nil)
		wantNoHead(t, leaf, place{0, 0}, nil)
	}
}

// Whatever the hashes are, they are taken as they are, if they are as many as the ranges.
func TestHeadsOfAnyHashes(t *testing.T) {
	for i, p := range append(small(130), great(mostLeaves)...) {
		leaf, path := api.Digest{2, byte(i)}, anyHashes(uint64(i), len(rangesOf(p)))
		want, is := headOf(leaf, p, path)
		if !is {
			t.Fatalf("%d hashes are not a path of %d in %d", len(path), p.index, p.size)
		}
		wantHead(t, leaf, p, path, want)
	}
}

func TestHeadsOfTheSameHash(t *testing.T) {
	for _, x := range []api.Digest{{}, merkle.Root(nil)} {
		for _, p := range small(40) {
			path := slices.Repeat([]api.Digest{x}, len(rangesOf(p)))
			want, _ := headOf(x, p, path)
			wantHead(t, x, p, path, want)
		}
	}
}

func TestHeadsOfAnotherNumberOfHashes(t *testing.T) {
	hashes := anyHashes(8, 64)
	for _, p := range append(small(40), great(mostLeaves)...) {
		right := len(rangesOf(p))
		for _, n := range []int{0, 1, right - 1, right + 1, right + 2, 2 * right, mostHashes, mostHashes + 1, 32, 64} {
			if n >= 0 && n != right {
				wantNoHead(t, hashes[63], p, hashes[:n])
			}
		}
		if right > 0 { // to reach into the room behind the hashes is wrong, too
			wantNoHead(t, hashes[63], p, inRoom(hashes[:right-1]))
		}
	}
}

func TestHeadsOfPlacesThatMayNotBe(t *testing.T) {
	hashes := anyHashes(9, 65)
	for _, p := range bad() {
		for _, n := range []int{0, 1, 2, 3, 7, 19, 20, 21, 31, 32, 33, 52, 53, 62, 63, 64} {
			wantNoHead(t, hashes[64], p, hashes[:n])
		}
	}
}

// A path is held for that of any place of a small tree: it is verified just where it tells the root.
func TestVerifyOfOtherPlaces(t *testing.T) {
	l := anyHashes(10, 20)
	places := append(small(20), place{0, 0}, place{20, 20}, place{21, 20}, place{0, mostLeaves + 1})
	for _, p := range small(20) {
		leaf, path, root := l[p.index], pathOf(l[:p.size], p.index), merkle.Root(l[:p.size])
		for _, other := range places {
			want := false
			if may(other) {
				head, is := headOf(leaf, other, path)
				want = is && head == root
			}
			wantVerify(t, leaf, other, path, root, want)
		}
	}
}

func TestVerifyOfOtherLeavesHashesAndRoots(t *testing.T) {
	l := anyHashes(11, 33)
	for _, p := range small(33) {
		leaf, path, root := l[p.index], pathOf(l[:p.size], p.index), merkle.Root(l[:p.size])
		for _, other := range others(leaf) {
			wantVerify(t, other, p, path, root, false)
		}
		for i := range path {
			for _, other := range others(path[i]) {
				changed := slices.Clone(path)
				changed[i] = other
				wantVerify(t, leaf, p, changed, root, false)
			}
			wantVerify(t, leaf, p, slices.Delete(slices.Clone(path), i, i+1), root, false)
			wantVerify(t, leaf, p, slices.Insert(slices.Clone(path), i, path[i]), root, false)
		}
		if len(path) > 1 {
			slices.Reverse(path)
			wantVerify(t, leaf, p, path, root, false)
		}
	}
}

// P10.4

func TestPathsAreVerified(t *testing.T) {
	l := anyHashes(12, 300)
	for _, p := range append(small(70), great(300)...) {
		tree := l[:p.size]
		path, e := incl.Path(tree, p.index)
		if e != api.OK {
			t.Fatalf("Path(%d leaves, %d): error %d", p.size, p.index, e)
		}
		wantHead(t, tree[p.index], p, path, merkle.Root(tree))
	}
}

// As no two unlike texts with one hash are known, no two leaves are told by one path, at one place, with one head.
func TestLeavesOfOnePathHaveHeadsOfTheirOwn(t *testing.T) {
	leaves := append(anyHashes(13, 10), api.Digest{})
	for i, p := range append(small(20), great(mostLeaves)...) {
		path := anyHashes(uint64(1000+i), len(rangesOf(p)))
		told := map[api.Digest]bool{}
		for _, leaf := range append(leaves, path...) {
			head, e := incl.Head(leaf, p.index, p.size, path)
			if e != api.OK || told[head] {
				t.Fatalf("Head(%d, %d): error %d, or two leaves have %x", p.index, p.size, e, head)
			}
			told[head] = true
		}
	}
}

// P10.5

func TestRangesAndTheLeafCoverTheTree(t *testing.T) {
	most := 0
	for _, p := range append(small(200), great(mostLeaves)...) {
		got, e := incl.Ranges(p.index, p.size)
		if e != api.OK || len(got) > mostHashes {
			t.Fatalf("Ranges(%d, %d): %d, error %d", p.index, p.size, len(got), e)
		}
		wantCovers(t, p, got)
		most = max(most, len(got))
	}
	if most != mostHashes {
		t.Errorf("a path has up to %d ranges, want %d", most, mostHashes)
	}
}

// R3

// What is handed in has room behind it, which an append in place would write to.
func TestWhatIsHandedInIsOnlyRead(t *testing.T) {
	l := anyHashes(14, 20)
	for _, p := range small(20) {
		tree := inRoom(l[:p.size])
		before := slices.Clone(tree[:cap(tree)])
		path, _ := incl.Path(tree, p.index)
		path = inRoom(path)
		again := slices.Clone(path[:cap(path)])
		incl.Head(tree[p.index], p.index, p.size, path)
		incl.Verify(tree[p.index], p.index, p.size, path, merkle.Root(tree))
		if !slices.Equal(tree[:cap(tree)], before) || !slices.Equal(path[:cap(path)], again) {
			t.Fatalf("index %d, size %d: what was handed in has changed", p.index, p.size)
		}
	}
}

func TestWhatIsAnsweredIsNewMemory(t *testing.T) {
	l := anyHashes(15, 20)
	for _, p := range small(20) {
		tree := inRoom(l[:p.size])
		before := slices.Clone(tree[:cap(tree)])
		want := pathOf(tree, p.index)
		one, _ := incl.Path(tree, p.index)
		two, _ := incl.Path(tree, p.index)
		spoil(one)
		if !slices.Equal(two, want) || !slices.Equal(tree[:cap(tree)], before) {
			t.Fatalf("index %d, size %d: a path shares memory with another one, or with the leaves", p.index, p.size)
		}
		spoil(tree)
		if !slices.Equal(two, want) {
			t.Fatalf("index %d, size %d: a path shares memory with the leaves", p.index, p.size)
		}
		ranges, _ := incl.Ranges(p.index, p.size)
		ranges = ranges[:cap(ranges)]
		for i := range ranges {
			ranges[i] = incl.Range{From: 99, To: 98}
		}
		wantRanges(t, p, rangesOf(p))
	}
}

// R7

func TestManyAtOnce(t *testing.T) {
	l := anyHashes(16, 50)
	var all sync.WaitGroup
	for g := range uint64(8) {
		all.Go(func() {
			for _, p := range small(43 + g) {
				tree := l[:p.size]
				path, e := incl.Path(tree, p.index)
				ranges, f := incl.Ranges(p.index, p.size)
				if e != api.OK || f != api.OK || !slices.Equal(ranges, rangesOf(p)) {
					t.Errorf("Ranges(%d, %d), among others: %v, errors %d, %d", p.index, p.size, ranges, e, f)
				}
				if !incl.Verify(tree[p.index], p.index, p.size, path, merkle.Root(tree)) {
					t.Errorf("Verify(%d, %d), among others, tells false", p.index, p.size)
				}
			}
		})
	}
	all.Wait()
}

func FuzzRanges(f *testing.F) {
	for _, p := range append(great(mostLeaves)[:100], bad()...) {
		f.Add(p.index, p.size)
	}
	f.Fuzz(func(t *testing.T, index, size uint64) {
		p := place{index, size}
		if !may(p) {
			wantNoRanges(t, p)
			wantNoHead(t, api.Digest{1}, p, nil)
			return
		}
		want := rangesOf(p)
		wantRanges(t, p, want)
		wantCovers(t, p, want)
	})
}

// The bytes are the leaf and the path's hashes; the root is what they tell, or the leaf.
func FuzzHead(f *testing.F) {
	f.Add(make([]byte, api.Hash), uint64(0), uint64(1))
	f.Add(make([]byte, 4*api.Hash), uint64(5), uint64(7))
	f.Add(make([]byte, 3*api.Hash), uint64(5), uint64(7))
	f.Add(make([]byte, 21*api.Hash), uint64(12345), uint64(mostLeaves))
	f.Add(make([]byte, 21*api.Hash), uint64(0), uint64(mostLeaves+1))
	f.Add(make([]byte, 65*api.Hash), uint64(math.MaxUint64-1), uint64(math.MaxUint64))
	f.Fuzz(func(t *testing.T, b []byte, index, size uint64) {
		hashes := hashesOf(b)
		if len(hashes) == 0 {
			return
		}
		leaf, path, p := hashes[0], inRoom(hashes[1:]), place{index, size}
		if want, is := headOf(leaf, p, path); may(p) && is {
			wantHead(t, leaf, p, path, want)
			return
		}
		wantNoHead(t, leaf, p, path)
	})
}

func FuzzPath(f *testing.F) {
	f.Add([]byte{}, uint64(0))
	f.Add(make([]byte, api.Hash), uint64(0))
	f.Add(make([]byte, 7*api.Hash), uint64(5))
	f.Add(make([]byte, 17*api.Hash), uint64(16))
	f.Add(make([]byte, 17*api.Hash), uint64(17))
	f.Add(make([]byte, 3*api.Hash), uint64(math.MaxUint64))
	f.Fuzz(func(t *testing.T, b []byte, index uint64) {
		leaves := inRoom(hashesOf(b))
		p := place{index, uint64(len(leaves))}
		if !may(p) {
			wantNoPath(t, leaves, index)
			return
		}
		want := pathOf(leaves, index)
		wantPath(t, leaves, index, want)
		wantHead(t, leaves[index], p, want, merkle.Root(leaves))
	})
}
