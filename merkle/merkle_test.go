package merkle_test

import (
	"bytes"
	"math"
	"slices"
	"sync"
	"testing"

	"escritoire/api"
	"escritoire/merkle"
)

// P8.1: Leaf, Leaves

func TestLeafOfKnown(t *testing.T) {
	wantText(t, "Leaf of none", merkle.Leaf(nil), known[0].head)
	wantText(t, "Leaf of an empty one", merkle.Leaf([]byte{}), known[0].head)
	wantText(t, `Leaf of "abc"`, merkle.Leaf([]byte("abc")), "609f6e36d2405585188d5cfd761f407c7cc46a7d3f314c88270469dde315fcd1")
}

// Among them are the lengths at which the hash takes another block.
func TestLeafOfEachLength(t *testing.T) {
	for n := range 300 {
		for _, b := range [][]byte{make([]byte, n), bytes.Repeat([]byte{0xff}, n), anyBytes(uint64(n), n)} {
			wantHash(t, "Leaf", merkle.Leaf(b), leafOf(b))
		}
	}
	long := anyBytes(1, 1<<20+7)
	wantHash(t, "Leaf of many bytes", merkle.Leaf(long), leafOf(long))
}

func TestLeaves(t *testing.T) {
	var l [][]byte
	for n := range 200 {
		got := merkle.Leaves(l)
		if len(got) != n {
			t.Fatalf("Leaves of %d: %d hashes", n, len(got))
		}
		for i, b := range l {
			wantHash(t, "Leaves", got[i], leafOf(b))
		}
		l = append(l, anyBytes(uint64(n), n))
	}
}

// A leaf of no bytes is one, and the same twice are two.
func TestLeavesOfNone(t *testing.T) {
	if a, b := merkle.Leaves(nil), merkle.Leaves([][]byte{}); len(a) != 0 || len(b) != 0 {
		t.Errorf("Leaves of none: %x, %x", a, b)
	}
	got := merkle.Leaves([][]byte{nil, {}, []byte("a"), []byte("a"), nil})
	if want := []api.Digest{leafOf(nil), leafOf(nil), leafOf([]byte("a")), leafOf([]byte("a")), leafOf(nil)}; !slices.Equal(got, want) {
		t.Errorf("Leaves with some of no bytes: got %x, want %x", got, want)
	}
}

// P8.1: Node

func TestNodeOfKnown(t *testing.T) {
	l := merkle.Leaves(knownLeaves(t, 4))
	wantText(t, "Node of two leaves", merkle.Node(l[0], l[1]), known[1].head)
	wantText(t, "Node of a node and a leaf", merkle.Node(merkle.Node(l[0], l[1]), l[2]), known[2].head)
	wantText(t, "Node of two nodes", merkle.Node(merkle.Node(l[0], l[1]), merkle.Node(l[2], l[3])), known[3].head)
}

func TestNode(t *testing.T) {
	hashes := append(anyLeaves(1, 20), api.Digest{}, api.Digest(bytes.Repeat([]byte{0xff}, api.Hash)))
	for _, a := range hashes {
		for _, b := range hashes {
			wantHash(t, "Node", merkle.Node(a, b), nodeOf(a, b))
		}
	}
}

func TestEachByteOfANodeCounts(t *testing.T) {
	a, b := anyLeaves(2, 1)[0], anyLeaves(3, 1)[0]
	seen := map[api.Digest]bool{merkle.Node(a, b): true, merkle.Node(b, a): true}
	if len(seen) != 2 {
		t.Error("a node of two hashes is the same the other way round")
	}
	for i := range api.Hash {
		x, y := a, b
		x[i]++
		y[i]++
		seen[merkle.Node(x, b)], seen[merkle.Node(a, y)] = true, true
	}
	if len(seen) != 2+2*api.Hash {
		t.Errorf("%d nodes of %d pairs of hashes", len(seen), 2+2*api.Hash)
	}
}

// A node, and a leaf that has the same bytes, with or without the byte ahead of them, are unlike.
func TestLeavesAreNoNodes(t *testing.T) {
	l := anyLeaves(4, 2)
	text := slices.Concat(l[0][:], l[1][:])
	if got := merkle.Node(l[0], l[1]); got == merkle.Leaf(text) || got == merkle.Leaf(append([]byte{1}, text...)) {
		t.Error("a node has the hash of a leaf")
	}
}

// P8.1: Root

func TestRootOfKnown(t *testing.T) {
	wantText(t, "Root of none", merkle.Root(nil), hashOfNone)
	wantText(t, "Root of an empty list", merkle.Root([]api.Digest{}), hashOfNone)
	for i, x := range known {
		wantText(t, "Root", merkle.Root(merkle.Leaves(knownLeaves(t, i+1))), x.head)
	}
}

func TestRootOfAFew(t *testing.T) {
	l := anyLeaves(5, 7)
	a, b, c, d, e, f, g := l[0], l[1], l[2], l[3], l[4], l[5], l[6]
	four := nodeOf(nodeOf(a, b), nodeOf(c, d))
	for i, want := range []api.Digest{
		a,
		nodeOf(a, b),
		nodeOf(nodeOf(a, b), c),
		four,
		nodeOf(four, e),
		nodeOf(four, nodeOf(e, f)),
		nodeOf(four, nodeOf(nodeOf(e, f), g)),
	} {
		wantHash(t, "Root", merkle.Root(l[:i+1]), want)
	}
}

func TestRootOfEachSize(t *testing.T) {
	for _, n := range sizes() {
		wantRoot(t, anyLeaves(uint64(n), n))
	}
}

// The chapter sets no limit to how many leaves there are.
func TestRootOfMoreThanATreeHas(t *testing.T) {
	wantRoot(t, anyLeaves(6, api.MaxLeaves+1))
}

// The head of one leaf is it, whatever it is; leaves that are the same are told apart by how many there are.
func TestRootOfLeavesThatAreTheSame(t *testing.T) {
	for _, x := range []api.Digest{{}, anyLeaves(7, 1)[0], merkle.Root(nil)} {
		seen := map[api.Digest]int{}
		for n := 1; n <= 70; n++ {
			l := slices.Repeat([]api.Digest{x}, n)
			wantRoot(t, l)
			if many := seen[merkle.Root(l)]; many > 0 {
				t.Errorf("the same leaf %d and %d times: one head", many, n)
			}
			seen[merkle.Root(l)] = n
		}
	}
}

func TestEachLeafCounts(t *testing.T) {
	for _, n := range []int{1, 2, 3, 7, 8, 9, 100} {
		l := anyLeaves(8, n)
		seen := map[api.Digest]bool{merkle.Root(l): true}
		for i := range l {
			l[i][i%api.Hash]++
			seen[merkle.Root(l)] = true
			l[i][i%api.Hash]--
		}
		for i := range n - 1 {
			l[i], l[i+1] = l[i+1], l[i]
			seen[merkle.Root(l)] = true
			l[i], l[i+1] = l[i+1], l[i]
		}
		if len(seen) != 2*n {
			t.Errorf("%d leaves: %d heads of %d lists", n, len(seen), 2*n)
		}
	}
}

// P8.2

func TestSubOfKnown(t *testing.T) {
	l := anyLeaves(9, 3)
	got, e := merkle.Sub(l, 1, 3)
	if e != api.OK || got != nodeOf(l[1], l[2]) {
		t.Errorf("Sub from 1 to 3: %x, error %d", got, e)
	}
	wantNoSub(t, l, 1, 1)
}

func TestSubOfEachRange(t *testing.T) {
	for _, n := range []int{1, 2, 3, 4, 5, 8, 13, 40} {
		l := anyLeaves(uint64(n), n)
		for from := range n {
			for to := from + 1; to <= n; to++ {
				wantSub(t, l, from, to)
			}
		}
	}
}

func TestSubOfLongRanges(t *testing.T) {
	l := anyLeaves(10, 3000)
	for _, from := range []int{0, 1, 2, 3, 500, 1023, 1024, 1025, 2047, 2048, 2999} {
		for _, to := range []int{1, 2, 1024, 1025, 2048, 2049, 2999, 3000} {
			if from < to {
				wantSub(t, l, from, to)
			}
		}
	}
}

func TestSubOfRangesThatMayNotBe(t *testing.T) {
	ends := []int{math.MinInt, math.MinInt + 1, math.MinInt32, -2, -1, 0, 1, 2, 3, 4, 5, 6, 7, 8, 9, 1 << 20, math.MaxInt32, math.MaxInt - 1, math.MaxInt}
	for n := range 8 {
		l := inRoom(anyLeaves(uint64(n), n)) // to reach into the room behind the leaves is wrong, too
		for _, from := range ends {
			for _, to := range ends {
				if from < 0 || to <= from || to > n {
					wantNoSub(t, l, from, to)
				} else {
					wantSub(t, l, from, to)
				}
			}
		}
	}
	for _, from := range ends {
		for _, to := range ends {
			wantNoSub(t, nil, from, to)
		}
	}
}

// P8.3

func TestLevelsOfNone(t *testing.T) {
	if a, b := merkle.Levels(nil), merkle.Levels([]api.Digest{}); len(a) != 0 || len(b) != 0 {
		t.Errorf("Levels of none: %x, %x", a, b)
	}
}

func TestLevelsOfAFew(t *testing.T) {
	l := anyLeaves(11, 7)
	ab, cd, ef := nodeOf(l[0], l[1]), nodeOf(l[2], l[3]), nodeOf(l[4], l[5])
	abcd := nodeOf(ab, cd)
	wantLevels(t, l[:1], [][]api.Digest{l[:1]})
	wantLevels(t, l[:2], [][]api.Digest{l[:2], {ab}})
	wantLevels(t, l[:3], [][]api.Digest{l[:3], {ab}})
	wantLevels(t, l[:4], [][]api.Digest{l[:4], {ab, cd}, {abcd}})
	wantLevels(t, l[:5], [][]api.Digest{l[:5], {ab, cd}, {abcd}})
	wantLevels(t, l[:6], [][]api.Digest{l[:6], {ab, cd, ef}, {abcd}})
	wantLevels(t, l[:7], [][]api.Digest{l[:7], {ab, cd, ef}, {abcd}})
}

func TestLevelsOfEachSize(t *testing.T) {
	for _, n := range sizes() {
		l := anyLeaves(uint64(n), n)
		got := merkle.Levels(l)
		many := n
		for i, level := range got {
			if len(level) != many {
				t.Fatalf("Levels of %d leaves: level %d has %d hashes, want %d", n, i, len(level), many)
			}
			many /= 2
		}
		if many != 0 {
			t.Fatalf("Levels of %d leaves end at level %d, which has two or more", n, len(got)-1)
		}
		wantLevels(t, l, levelsOf(l))
	}
}

// P8.4

func TestHeadsOfTwoParts(t *testing.T) {
	all := anyLeaves(12, 260)
	for first := 1; first <= 128; first *= 2 {
		for more := 1; more <= first; more++ {
			l := all[:first+more]
			want := nodeOf(merkle.Root(l[:first]), merkle.Root(l[first:]))
			wantHash(t, "Root of two parts", merkle.Root(l), want)
			for from := range 3 {
				part := all[from : from+first+more]
				got, e := merkle.Sub(all, from, from+first+more)
				if want := nodeOf(headOf(part[:first]), headOf(part[first:])); e != api.OK || got != want {
					t.Errorf("Sub from %d of %d and %d: got %x, error %d, want %x", from, first, more, got, e, want)
				}
			}
		}
	}
}

// The empty list is no part: a head is not the node of it and that of none.
func TestHeadsOfAPartAndNone(t *testing.T) {
	l := anyLeaves(13, 64)
	for n := 1; n <= 64; n *= 2 {
		if head := merkle.Root(l[:n]); head == merkle.Node(head, merkle.Root(nil)) {
			t.Errorf("Root of %d is the node of it and none", n)
		}
	}
}

// P8.5

func TestHeadsOfWholePartsStandInLevels(t *testing.T) {
	for _, n := range sizes() {
		l := anyLeaves(uint64(n)+1000, n)
		levels := merkle.Levels(l)
		for many, at := 1, 0; many <= n; many, at = 2*many, at+1 {
			for from := 0; from+many <= n; from += many {
				got, e := merkle.Sub(l, from, from+many)
				if e != api.OK || at >= len(levels) || from/many >= len(levels[at]) || levels[at][from/many] != got {
					t.Fatalf("of %d leaves, the head of those from %d to %d does not stand in Levels", n, from, from+many)
				}
			}
		}
	}
}

// R3

// What is handed in has room behind it, which an append in place would write to.
func TestWhatIsHandedInIsOnlyReadAndNotKept(t *testing.T) {
	for _, n := range []int{1, 2, 3, 4, 7, 8, 9, 33} {
		leaves := anyLeaves(uint64(n), n)
		l := inRoom(leaves)
		before := slices.Clone(l[:cap(l)])
		root, levels := merkle.Root(l), merkle.Levels(l)
		merkle.Sub(l, n/2, n)
		if !slices.Equal(l[:cap(l)], before) {
			t.Fatalf("%d leaves that were handed in have changed", n)
		}
		spoil(l)
		wantHash(t, "Root, behind a change of what was handed in", root, headOf(leaves))
		for i, want := range levelsOf(leaves) {
			if !slices.Equal(levels[i], want) {
				t.Errorf("%d leaves: level %d shares memory with what was handed in", n, i)
			}
		}
	}
}

func TestBytesThatAreHandedInAreOnlyReadAndNotKept(t *testing.T) {
	for _, n := range []int{0, 1, 54, 55, 62, 63, 64, 65, 200} {
		room := anyBytes(14, n+100)
		before := bytes.Clone(room)
		leaf, leaves := merkle.Leaf(room[:n]), merkle.Leaves([][]byte{room[:n], room[:n]})
		if !bytes.Equal(room, before) {
			t.Fatalf("%d bytes that were handed in have changed", n)
		}
		for i := range room {
			room[i] ^= 0xff
		}
		want := leafOf(before[:n])
		if leaf != want || !slices.Equal(leaves, []api.Digest{want, want}) {
			t.Errorf("a leaf of %d bytes: got %x, %x, want %x", n, leaf, leaves, want)
		}
	}
}

func TestLevelsShareNoMemory(t *testing.T) {
	for _, n := range []int{1, 2, 3, 4, 7, 8, 9, 33, 64} {
		l := anyLeaves(15, n)
		want := levelsOf(l)
		for i := range want {
			one, two := merkle.Levels(l), merkle.Levels(l)
			spoil(one[i])
			for j := range want {
				if j != i && !slices.Equal(one[j], want[j]) {
					t.Errorf("of %d leaves, levels %d and %d share memory", n, i, j)
				}
			}
			if !slices.Equal(two[i], want[i]) {
				t.Errorf("of %d leaves, level %d of two answers is in one memory", n, i)
			}
			wantLevels(t, l, want)
		}
	}
}

func TestLeavesAreNewMemory(t *testing.T) {
	l := [][]byte{[]byte("a"), []byte("b"), []byte("c")}
	one, two := merkle.Leaves(l), merkle.Leaves(l)
	want := slices.Clone(two)
	spoil(one)
	if !slices.Equal(two, want) || !slices.Equal(merkle.Leaves(l), want) {
		t.Error("two answers of Leaves share memory")
	}
}

// R7

func TestManyAtOnce(t *testing.T) {
	l := anyLeaves(16, 200)
	var all sync.WaitGroup
	for g := range 8 {
		all.Go(func() {
			for n := 1; n <= len(l); n += g + 1 {
				wantRoot(t, l[:n])
				wantSub(t, l, n-1, len(l))
				wantLevels(t, l[:n], levelsOf(l[:n]))
			}
		})
	}
	all.Wait()
}

func FuzzLeavesAndRoot(f *testing.F) {
	f.Add([]byte("a log of leaves"), 3)
	f.Add([]byte{}, 1)
	f.Add(anyBytes(17, 300), 7)
	f.Fuzz(func(t *testing.T, b []byte, size int) {
		if size < 1 || size > 1000 {
			return
		}
		l := slices.Collect(slices.Chunk(b, size))
		leaves := merkle.Leaves(l)
		for i := range l {
			wantHash(t, "Leaves", leaves[i], leafOf(l[i]))
			wantHash(t, "Leaf", merkle.Leaf(l[i]), leaves[i])
		}
		wantRoot(t, leaves)
		wantLevels(t, leaves, levelsOf(leaves))
	})
}

func FuzzSub(f *testing.F) {
	f.Add(3, 1, 3)
	f.Add(3, 1, 1)
	f.Add(0, 0, 0)
	f.Add(5, -1, 2)
	f.Add(5, 2, 6)
	f.Add(5, math.MinInt, math.MaxInt)
	f.Fuzz(func(t *testing.T, n, from, to int) {
		if n < 0 || n > 300 {
			return
		}
		l := inRoom(anyLeaves(18, n))
		if from < 0 || to <= from || to > n {
			wantNoSub(t, l, from, to)
			return
		}
		wantSub(t, l, from, to)
	})
}
