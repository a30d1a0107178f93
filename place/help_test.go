package place_test

import (
	"iter"
	"math"
	"slices"
	"testing"

	"escritoire/api"
	"escritoire/place"
)

// The document's limits, in numbers of the tests' own.
const (
	highest    = 20
	mostLeaves = 1048576
)

// level is a level's number, how many nodes it has, and how many leaves each of these has.
type level struct {
	number        int
	nodes, leaves uint64
}

// levels are all that there are: each has half as many nodes as the one below it.
var levels = func() []level {
	out := []level{{0, mostLeaves, 1}}
	for n := 1; n <= highest; n++ {
		below := out[n-1]
		out = append(out, level{n, below.nodes / 2, below.leaves * 2})
	}
	return out
}()

// every is each node that may be.
func every() iter.Seq[place.Node] {
	return func(yield func(place.Node) bool) {
		for _, l := range levels {
			for i := range l.nodes {
				if !yield(place.Node{Level: l.number, Index: i}) {
					return
				}
			}
		}
	}
}

// some are nodes that may be, of each level: the first ones, the last ones, and some that stand between.
func some() []place.Node {
	var out []place.Node
	for _, l := range levels {
		for i := range l.nodes {
			near := i < 5 || i+5 >= l.nodes || l.nodes/2-i <= 2 || i-l.nodes/2 <= 2
			if near || i%(l.nodes/8+1) == 3 {
				out = append(out, place.Node{Level: l.number, Index: i})
			}
		}
	}
	return out
}

// bad are nodes that may not be.
func bad() []place.Node {
	var out []place.Node
	for _, l := range levels {
		for _, i := range []uint64{l.nodes, l.nodes + 1, 2 * l.nodes, 2*l.nodes + 1, mostLeaves, 1 << 32, 1<<32 + 1, 1 << 53, 1<<53 + 1, 1 << 63, math.MaxUint64 - 1, math.MaxUint64} {
			if i >= l.nodes {
				out = append(out, place.Node{Level: l.number, Index: i})
			}
		}
	}
	for _, n := range []int{-1, -2, -20, -64, math.MinInt32, math.MinInt + 1, math.MinInt, highest + 1, highest + 2, 31, 32, 63, 64, 65, 128, 256, 276, 1 << 16, 1 << 32, 1<<32 + 1, math.MaxInt32, math.MaxInt - 1, math.MaxInt} {
		for _, i := range []uint64{0, 1, 2, mostLeaves - 1, mostLeaves, math.MaxUint64} {
			out = append(out, place.Node{Level: n, Index: i})
		}
	}
	return out
}

// leavesOf are the first leaf, and the one behind the last one, of a node that may be.
func leavesOf(n place.Node) (uint64, uint64) {
	many := levels[n.Level].leaves
	return n.Index * many, n.Index*many + many
}

// beneathOf is what Beneath must tell of nodes that may be.
func beneathOf(a, b place.Node) bool {
	first, behind := leavesOf(a)
	begin, end := leavesOf(b)
	return a.Level < b.Level && first >= begin && behind <= end
}

// coverOf is the cover of a range that may be, found from the top downwards: a node that has leaves on both sides of an end of it is parted.
func coverOf(from, to uint64) []place.Node {
	var out []place.Node
	var under func(n place.Node, first, many uint64)
	under = func(n place.Node, first, many uint64) {
		switch {
		case first >= to || first+many <= from:
		case first >= from && first+many <= to:
			out = append(out, n)
		default:
			under(place.Node{Level: n.Level - 1, Index: 2 * n.Index}, first, many/2)
			under(place.Node{Level: n.Level - 1, Index: 2*n.Index + 1}, first+many/2, many/2)
		}
	}
	under(place.Node{Level: highest}, 0, mostLeaves)
	return out
}

// fewestOf tells how many nodes are needed to cover the leaves from from on up to each leaf, up to most: whatever node may come last is tried.
func fewestOf(from, most uint64) []int {
	out := make([]int, most+1)
	for to := from + 1; to <= most; to++ {
		out[to] = math.MaxInt
		for _, l := range levels {
			if to%l.leaves == 0 && to-from >= l.leaves {
				out[to] = min(out[to], 1+out[to-l.leaves])
			}
		}
	}
	return out
}

// ranges are some that may be: of the ends of levels, of all, and others of whatever seed.
func ranges() [][2]uint64 {
	ends := []uint64{0, 1, 2, 3, mostLeaves - 3, mostLeaves - 2, mostLeaves - 1, mostLeaves}
	for _, l := range levels {
		ends = append(ends, l.leaves-1, l.leaves, l.leaves+1, mostLeaves-l.leaves)
	}
	for seed := range uint64(40) {
		ends = append(ends, random(seed)%(mostLeaves+1))
	}
	var out [][2]uint64
	for _, from := range ends {
		for _, to := range ends {
			if from <= to && to <= mostLeaves {
				out = append(out, [2]uint64{from, to})
			}
		}
	}
	return out
}

// random is a number of a seed, by a rule of its own.
func random(seed uint64) uint64 {
	for range 4 {
		seed = seed*6364136223846793005 + 1442695040888963407
		seed ^= seed >> 29
	}
	return seed
}

// parentOf, siblingOf and childrenOf are the calls' answers, which must be OK. (They, and wantLeaves, are called for every node: t.Helper, which takes far longer, stands where they fail.)

func parentOf(t *testing.T, n place.Node) place.Node {
	got, e := place.Parent(n)
	if e != api.OK {
		t.Helper()
		t.Fatalf("Parent(%v): error %d", n, e)
	}
	return got
}

func siblingOf(t *testing.T, n place.Node) place.Node {
	got, e := place.Sibling(n)
	if e != api.OK {
		t.Helper()
		t.Fatalf("Sibling(%v): error %d", n, e)
	}
	return got
}

func childrenOf(t *testing.T, n place.Node) (place.Node, place.Node) {
	a, b, e := place.Children(n)
	if e != api.OK {
		t.Helper()
		t.Fatalf("Children(%v): error %d", n, e)
	}
	return a, b
}

func wantLeaves(t *testing.T, n place.Node, first, behind uint64) {
	got, end, e := place.Leaves(n)
	if e != api.OK || got != first || end != behind {
		t.Helper()
		t.Fatalf("Leaves(%v): got %d, %d, error %d, want %d, %d", n, got, end, e, first, behind)
	}
}

func wantNoParent(t *testing.T, n place.Node) {
	t.Helper()
	if got, e := place.Parent(n); e != api.ErrArg || got != (place.Node{}) {
		t.Errorf("Parent(%v): got %v, error %d, want ErrArg alone", n, got, e)
	}
	if got, e := place.Sibling(n); e != api.ErrArg || got != (place.Node{}) {
		t.Errorf("Sibling(%v): got %v, error %d, want ErrArg alone", n, got, e)
	}
}

func wantNoChildren(t *testing.T, n place.Node) {
	t.Helper()
	if a, b, e := place.Children(n); e != api.ErrArg || a != (place.Node{}) || b != (place.Node{}) {
		t.Errorf("Children(%v): got %v, %v, error %d, want ErrArg alone", n, a, b, e)
	}
}

func wantCover(t *testing.T, from, to uint64, want []place.Node) {
	t.Helper()
	got, e := place.Cover(from, to)
	if e != api.OK || !slices.Equal(got, want) {
		t.Fatalf("Cover(%d, %d): got %v, error %d, want %v", from, to, got, e, want)
	}
}

func wantNoCover(t *testing.T, from, to uint64) {
	t.Helper()
	if got, e := place.Cover(from, to); e != api.ErrArg || len(got) != 0 {
		t.Errorf("Cover(%d, %d): got %d nodes, error %d, want ErrArg alone", from, to, len(got), e)
	}
}

// wantCovered wants the nodes, one by one, to have just the leaves from from on up to to, each of them once, in their order.
func wantCovered(t *testing.T, from, to uint64, nodes []place.Node) {
	t.Helper()
	at := from
	for _, n := range nodes {
		if !place.May(n) {
			t.Fatalf("Cover(%d, %d): %v may not be", from, to, n)
		}
		first, behind := leavesOf(n)
		if first != at {
			t.Fatalf("Cover(%d, %d): %v begins at %d, behind the leaf ahead of %d", from, to, n, first, at)
		}
		at = behind
	}
	if at != to {
		t.Fatalf("Cover(%d, %d) ends ahead of %d", from, to, at)
	}
}
