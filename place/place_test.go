package place_test

import (
	"math"
	"slices"
	"sync"
	"testing"

	"escritoire/api"
	"escritoire/place"
)

// What each promise is held against are levels of the tests' own, whose limits are the given ones.
func TestLimits(t *testing.T) {
	top := levels[highest]
	if api.MaxLeaves != mostLeaves || top.nodes != 1 || top.leaves != mostLeaves {
		t.Fatalf("%d leaves at most; the highest level: %v", api.MaxLeaves, top)
	}
}

// P7.1: May, Leaves

func TestMay(t *testing.T) {
	for n := range every() {
		if !place.May(n) {
			t.Fatalf("May(%v) tells false", n)
		}
	}
	for _, n := range bad() {
		if place.May(n) {
			t.Errorf("May(%v) tells true", n)
		}
	}
}

func TestMayAtEachLevelsEnd(t *testing.T) {
	for _, l := range levels {
		for i := range 2*l.nodes + 3 {
			if got, want := place.May(place.Node{Level: l.number, Index: i}), i < l.nodes; got != want {
				t.Fatalf("May of %d of level %d tells %v", i, l.number, got)
			}
		}
	}
}

// The leaves of one level's nodes are one behind the other, and all that there are.
func TestLeavesOfEveryNode(t *testing.T) {
	for _, l := range levels {
		at := uint64(0)
		for i := range l.nodes {
			wantLeaves(t, place.Node{Level: l.number, Index: i}, at, at+l.leaves)
			at += l.leaves
		}
		if at != mostLeaves {
			t.Errorf("level %d has %d leaves", l.number, at)
		}
	}
}

func TestLeavesOfKnownNodes(t *testing.T) {
	wantLeaves(t, place.Node{Level: 2, Index: 3}, 12, 16)
	wantLeaves(t, place.Node{}, 0, 1)
	wantLeaves(t, place.Node{Level: 0, Index: 1048575}, 1048575, 1048576)
	wantLeaves(t, place.Node{Level: 19, Index: 1}, 524288, 1048576)
	wantLeaves(t, place.Node{Level: 20}, 0, 1048576)
}

func TestLeavesOfNodesThatMayNotBe(t *testing.T) {
	for _, n := range bad() {
		if first, behind, e := place.Leaves(n); e != api.ErrArg || first != 0 || behind != 0 {
			t.Errorf("Leaves(%v): got %d, %d, error %d, want ErrArg alone", n, first, behind, e)
		}
	}
}

// P7.1: Beneath

func TestBeneath(t *testing.T) {
	nodes := some()
	for _, a := range nodes {
		for _, b := range nodes {
			if got, want := place.Beneath(a, b), beneathOf(a, b); got != want {
				t.Fatalf("Beneath(%v, %v) tells %v, want %v", a, b, got, want)
			}
		}
	}
}

// Of the first leaves, all nodes that have them, and their neighbours, each pair is looked at.
func TestBeneathOfEachPair(t *testing.T) {
	var near []place.Node
	for _, l := range levels {
		for i := range min(l.nodes, 64/l.leaves+2) {
			near = append(near, place.Node{Level: l.number, Index: i})
		}
	}
	for _, a := range near {
		for _, b := range near {
			if got, want := place.Beneath(a, b), beneathOf(a, b); got != want {
				t.Fatalf("Beneath(%v, %v) tells %v, want %v", a, b, got, want)
			}
		}
	}
}

func TestBeneathOfKnownNodes(t *testing.T) {
	for _, x := range []struct {
		a, b place.Node
		want bool
	}{
		{place.Node{Level: 0, Index: 12}, place.Node{Level: 2, Index: 3}, true},
		{place.Node{Level: 0, Index: 15}, place.Node{Level: 2, Index: 3}, true},
		{place.Node{Level: 1, Index: 7}, place.Node{Level: 2, Index: 3}, true},
		{place.Node{Level: 0, Index: 11}, place.Node{Level: 2, Index: 3}, false},
		{place.Node{Level: 0, Index: 16}, place.Node{Level: 2, Index: 3}, false},
		{place.Node{Level: 2, Index: 3}, place.Node{Level: 2, Index: 3}, false}, // itself
		{place.Node{Level: 2, Index: 3}, place.Node{Level: 1, Index: 7}, false}, // above it
		{place.Node{Level: 0, Index: 0}, place.Node{Level: 0, Index: 1}, false},
		{place.Node{Level: 0, Index: 1048575}, place.Node{Level: 20}, true},
		{place.Node{Level: 19, Index: 1}, place.Node{Level: 20}, true},
		{place.Node{Level: 20}, place.Node{Level: 20}, false},
	} {
		if got := place.Beneath(x.a, x.b); got != x.want {
			t.Errorf("Beneath(%v, %v) tells %v", x.a, x.b, got)
		}
	}
}

// A node that may not be is beneath none, and none beneath it, whatever their leaves would be.
func TestBeneathOfNodesThatMayNotBe(t *testing.T) {
	others := append(bad(), place.Node{}, place.Node{Level: 0, Index: 1}, place.Node{Level: 3, Index: 1}, place.Node{Level: 19, Index: 1}, place.Node{Level: 20})
	for _, n := range bad() {
		for _, m := range others {
			if place.Beneath(n, m) || place.Beneath(m, n) {
				t.Fatalf("%v and %v: one is beneath the other", n, m)
			}
		}
	}
	for _, l := range levels {
		if place.Beneath(place.Node{Level: l.number}, place.Node{Level: highest + 1}) {
			t.Errorf("a node of level %d is beneath one of level 21", l.number)
		}
		if place.Beneath(place.Node{Level: l.number, Index: l.nodes}, place.Node{Level: highest, Index: 1}) {
			t.Errorf("a node behind those of level %d is beneath one behind that of level 20", l.number)
		}
	}
}

// P7.2

func TestParent(t *testing.T) {
	for n := range every() {
		if n.Level == highest {
			wantNoParent(t, n)
			continue
		}
		if got, want := parentOf(t, n), (place.Node{Level: n.Level + 1, Index: n.Index / 2}); got != want {
			t.Fatalf("Parent(%v): got %v, want %v", n, got, want)
		}
	}
}

func TestSibling(t *testing.T) {
	for n := range every() {
		if n.Level == highest {
			continue
		}
		want := place.Node{Level: n.Level, Index: n.Index + 1}
		if n.Index%2 == 1 {
			want.Index = n.Index - 1
		}
		if got := siblingOf(t, n); got != want {
			t.Fatalf("Sibling(%v): got %v, want %v", n, got, want)
		}
	}
}

func TestChildren(t *testing.T) {
	for n := range every() {
		if n.Level == 0 {
			wantNoChildren(t, n)
			continue
		}
		a, b := childrenOf(t, n)
		if a != (place.Node{Level: n.Level - 1, Index: 2 * n.Index}) || b != (place.Node{Level: n.Level - 1, Index: 2*n.Index + 1}) {
			t.Fatalf("Children(%v): got %v, %v", n, a, b)
		}
	}
}

func TestNeighboursOfKnownNodes(t *testing.T) {
	n := place.Node{Level: 2, Index: 3}
	if got := parentOf(t, n); got != (place.Node{Level: 3, Index: 1}) {
		t.Errorf("Parent(%v): %v", n, got)
	}
	if got := siblingOf(t, n); got != (place.Node{Level: 2, Index: 2}) {
		t.Errorf("Sibling(%v): %v", n, got)
	}
	n = place.Node{Level: 1, Index: 5}
	if a, b := childrenOf(t, n); a != (place.Node{Level: 0, Index: 10}) || b != (place.Node{Level: 0, Index: 11}) {
		t.Errorf("Children(%v): %v, %v", n, a, b)
	}
	if a, b := childrenOf(t, place.Node{Level: 20}); a != (place.Node{Level: 19}) || b != (place.Node{Level: 19, Index: 1}) {
		t.Errorf("Children of the highest: %v, %v", a, b)
	}
	wantNoChildren(t, place.Node{Level: 0, Index: 5})
	wantNoParent(t, place.Node{Level: 20})
}

func TestNeighboursOfNodesThatMayNotBe(t *testing.T) {
	for _, n := range bad() {
		wantNoParent(t, n)
		wantNoChildren(t, n)
	}
}

// P7.3

func TestCoverOfKnownRanges(t *testing.T) {
	wantCover(t, 0, 7, []place.Node{{Level: 2}, {Level: 1, Index: 2}, {Level: 0, Index: 6}})
	wantCover(t, 3, 8, []place.Node{{Level: 0, Index: 3}, {Level: 2, Index: 1}})
	wantCover(t, 0, 1, []place.Node{{}})
	wantCover(t, 1, 3, []place.Node{{Level: 0, Index: 1}, {Level: 0, Index: 2}})
	wantCover(t, 0, 1048576, []place.Node{{Level: 20}})
	wantCover(t, 0, 524288, []place.Node{{Level: 19}})
	wantCover(t, 524288, 1048576, []place.Node{{Level: 19, Index: 1}})
	wantCover(t, 1048575, 1048576, []place.Node{{Level: 0, Index: 1048575}})
}

func TestCoverOfEveryNodesLeaves(t *testing.T) {
	for n := range every() {
		first, behind := leavesOf(n)
		got, e := place.Cover(first, behind)
		if e != api.OK || len(got) != 1 || got[0] != n {
			t.Fatalf("Cover(%d, %d): got %v, error %d, want %v alone", first, behind, got, e, n)
		}
	}
}

func TestCoverOfAllShortRanges(t *testing.T) {
	for from := range uint64(130) {
		for to := from; to <= 260; to++ {
			wantCover(t, from, to, coverOf(from, to))
		}
	}
}

func TestCoverOfAllRangesNearTheEnd(t *testing.T) {
	for from := uint64(mostLeaves - 100); from <= mostLeaves; from++ {
		for to := from; to <= mostLeaves; to++ {
			wantCover(t, from, to, coverOf(from, to))
		}
	}
}

func TestCoverOfLongRanges(t *testing.T) {
	for _, r := range ranges() {
		wantCover(t, r[0], r[1], coverOf(r[0], r[1]))
	}
}

// The longest cover: all leaves but the first and the last one.
func TestCoverOfMostNodes(t *testing.T) {
	var want []place.Node
	for n := range highest - 1 {
		want = append(want, place.Node{Level: n, Index: 1})
	}
	for n := highest - 2; n >= 0; n-- {
		want = append(want, place.Node{Level: n, Index: levels[n].nodes - 2})
	}
	wantCover(t, 1, mostLeaves-1, want)
}

func TestCoverOfNone(t *testing.T) {
	for at := range uint64(5000) {
		wantCover(t, at, at, nil)
	}
	for _, l := range levels {
		wantCover(t, l.leaves, l.leaves, nil)
	}
	wantCover(t, 4, 4, nil)
	wantCover(t, mostLeaves-1, mostLeaves-1, nil)
	wantCover(t, mostLeaves, mostLeaves, nil)
}

func TestCoverOfRangesThatMayNotBe(t *testing.T) {
	far := []uint64{mostLeaves + 1, mostLeaves + 2, 2 * mostLeaves, 1 << 32, 1<<32 + 7, 1 << 53, 1 << 63, math.MaxUint64 - 1, math.MaxUint64}
	for _, to := range far {
		for _, from := range append([]uint64{0, 1, 7, mostLeaves - 1, mostLeaves}, far...) {
			wantNoCover(t, from, to)
		}
	}
	for to := range uint64(70) {
		for from := to + 1; from < 140; from++ {
			wantNoCover(t, from, to)
		}
		for _, from := range append(far, mostLeaves-1, mostLeaves) {
			wantNoCover(t, from, to)
		}
	}
	wantNoCover(t, mostLeaves, mostLeaves-1)
	wantNoCover(t, mostLeaves+1, mostLeaves)
	wantNoCover(t, math.MaxUint64, mostLeaves)
}

// P7.4

func TestSplit(t *testing.T) {
	want := uint64(1)
	for n := uint64(2); n <= mostLeaves; n++ {
		for 2*want < n {
			want *= 2
		}
		if got, e := place.Split(n); e != api.OK || got != want {
			t.Fatalf("Split(%d): got %d, error %d, want %d", n, got, e, want)
		}
	}
}

func TestSplitOfKnownNumbers(t *testing.T) {
	for n, want := range map[uint64]uint64{2: 1, 3: 2, 4: 2, 5: 4, 7: 4, 8: 4, 9: 8, 16: 8, 17: 16, 524288: 262144, 524289: 524288, 1048575: 524288, 1048576: 524288} {
		if got, e := place.Split(n); e != api.OK || got != want {
			t.Errorf("Split(%d): got %d, error %d, want %d", n, got, e, want)
		}
	}
}

func TestSplitOfNumbersThatMayNotBe(t *testing.T) {
	for _, n := range []uint64{0, 1, mostLeaves + 1, mostLeaves + 2, 2 * mostLeaves, 1 << 32, 1<<32 + 2, 1<<63 - 1, 1 << 63, 1<<63 + 1, math.MaxUint64 - 1, math.MaxUint64} {
		if got, e := place.Split(n); e != api.ErrArg || got != 0 {
			t.Errorf("Split(%d): got %d, error %d, want ErrArg alone", n, got, e)
		}
	}
}

// P7.5

func TestNodesAndTheirParents(t *testing.T) {
	for n := range every() {
		if n.Level == highest {
			continue
		}
		p, s := parentOf(t, n), siblingOf(t, n)
		a, b := childrenOf(t, p)
		if !(a == n && b == s || a == s && b == n) {
			t.Fatalf("%v, whose sibling is %v, has a parent with the children %v, %v", n, s, a, b)
		}
		if got := siblingOf(t, s); got != n {
			t.Fatalf("the sibling of the sibling of %v is %v", n, got)
		}
		if !place.Beneath(n, p) || !place.Beneath(s, p) || place.Beneath(n, s) || place.Beneath(p, n) {
			t.Fatalf("%v, %v and %v: what is beneath what is wrong", n, s, p)
		}
	}
}

func TestNodesAndTheirChildren(t *testing.T) {
	for n := range every() {
		if n.Level == 0 {
			continue
		}
		a, b := childrenOf(t, n)
		if parentOf(t, a) != n || parentOf(t, b) != n {
			t.Fatalf("the children %v, %v of %v have another parent", a, b, n)
		}
		first, middle, _ := place.Leaves(a)
		again, behind, _ := place.Leaves(b)
		if middle != again {
			t.Fatalf("the children of %v: the leaves end at %d, and go on at %d", n, middle, again)
		}
		wantLeaves(t, n, first, behind)
	}
}

// P7.6

// wantFewest wants no two siblings, and of each node's parent leaves that are not from from on up to to.
func wantFewest(t *testing.T, from, to uint64, nodes []place.Node) {
	t.Helper()
	there := map[place.Node]bool{}
	for _, n := range nodes {
		there[n] = true
	}
	for _, n := range nodes {
		if n.Level == highest {
			continue
		}
		if there[siblingOf(t, n)] {
			t.Errorf("Cover(%d, %d) has %v and its sibling", from, to, n)
		}
		first, behind := leavesOf(parentOf(t, n))
		if first >= from && behind <= to {
			t.Errorf("Cover(%d, %d) has %v, all of whose parent's leaves are covered", from, to, n)
		}
	}
}

func TestCoversAreTheFewest(t *testing.T) {
	for from := range uint64(140) {
		fewest := fewestOf(from, 140)
		for to := from; to <= 140; to++ {
			got, e := place.Cover(from, to)
			if e != api.OK || len(got) != fewest[to] {
				t.Fatalf("Cover(%d, %d): %d nodes, error %d, want %d", from, to, len(got), e, fewest[to])
			}
			wantCovered(t, from, to, got)
			wantFewest(t, from, to, got)
		}
	}
}

func TestLongCoversAreTheFewest(t *testing.T) {
	for _, r := range ranges() {
		got, e := place.Cover(r[0], r[1])
		if e != api.OK {
			t.Fatalf("Cover(%d, %d): error %d", r[0], r[1], e)
		}
		wantCovered(t, r[0], r[1], got)
		wantFewest(t, r[0], r[1], got)
	}
}

func TestCoversOneBehindTheOther(t *testing.T) {
	for seed, r := range ranges() {
		middle := r[0] + random(uint64(seed))%(r[1]-r[0]+1)
		one, _ := place.Cover(r[0], middle)
		two, _ := place.Cover(middle, r[1])
		wantCovered(t, r[0], r[1], append(slices.Clone(one), two...))
	}
}

// RFC 6962 parts a list where its cover's first node ends, if there are more; else the node has two children.
func TestSplitIsWhereACoverIsParted(t *testing.T) {
	for n := uint64(2); n < 5000; n++ {
		split, _ := place.Split(n)
		nodes, _ := place.Cover(0, n)
		first := nodes[0]
		if len(nodes) == 1 {
			first, _ = childrenOf(t, first)
		}
		wantLeaves(t, first, 0, split)
	}
}

// R3

func TestCoversAreNewMemory(t *testing.T) {
	for _, r := range [][2]uint64{{0, 7}, {3, 8}, {1, mostLeaves - 1}, {0, mostLeaves}} {
		one, _ := place.Cover(r[0], r[1])
		two, _ := place.Cover(r[0], r[1])
		one = one[:cap(one)]
		for i := range one {
			one[i] = place.Node{Level: -1, Index: 99}
		}
		if want := coverOf(r[0], r[1]); !slices.Equal(two, want) {
			t.Errorf("two covers of %v share memory", r)
		}
		wantCover(t, r[0], r[1], coverOf(r[0], r[1]))
	}
}

// R7

func TestManyAtOnce(t *testing.T) {
	var all sync.WaitGroup
	for g := range uint64(8) {
		all.Go(func() {
			for i := range uint64(200) {
				from, to := random(g)%mostLeaves, random(i)%(mostLeaves+1)
				if from > to {
					from, to = to, from
				}
				if got, e := place.Cover(from, to); e != api.OK || !slices.Equal(got, coverOf(from, to)) {
					t.Errorf("Cover(%d, %d), among others: %v, error %d", from, to, got, e)
				}
			}
		})
	}
	all.Wait()
}

func FuzzNode(f *testing.F) {
	for _, n := range append(some()[:50], bad()...) {
		f.Add(n.Level, n.Index)
	}
	f.Fuzz(func(t *testing.T, number int, index uint64) {
		n := place.Node{Level: number, Index: index}
		may := number >= 0 && number <= highest && index < levels[number].nodes
		if place.May(n) != may {
			t.Fatalf("May(%v) tells %v", n, !may)
		}
		if !may || number == highest {
			wantNoParent(t, n)
		} else if p := parentOf(t, n); !beneathOf(n, p) || !place.Beneath(n, p) || !beneathOf(siblingOf(t, n), p) {
			t.Errorf("Parent(%v): %v", n, p)
		}
		if !may || number == 0 {
			wantNoChildren(t, n)
		} else if a, b := childrenOf(t, n); !beneathOf(a, n) || !beneathOf(b, n) || a == b {
			t.Errorf("Children(%v): %v, %v", n, a, b)
		}
		if may {
			first, behind := leavesOf(n)
			wantLeaves(t, n, first, behind)
		}
	})
}

func FuzzCover(f *testing.F) {
	for _, r := range ranges()[:100] {
		f.Add(r[0], r[1])
	}
	f.Add(uint64(1), uint64(0))
	f.Add(uint64(0), uint64(mostLeaves+1))
	f.Fuzz(func(t *testing.T, from, to uint64) {
		if from > to || to > mostLeaves {
			wantNoCover(t, from, to)
			return
		}
		wantCover(t, from, to, coverOf(from, to))
	})
}
