package ranges_test

import (
	"encoding/hex"
	"math"
	"slices"
	"sync"
	"testing"

	"escritoire/api"
	"escritoire/merkle"
	"escritoire/ranges"
)

// What each promise is held against are limits of the tests' own, which are the given ones.
func TestLimits(t *testing.T) {
	if api.MaxLeaves != mostLeaves {
		t.Fatalf("%d leaves at most", api.MaxLeaves)
	}
}

// P9.1: New

func TestNew(t *testing.T) {
	r := ranges.New()
	wantRange(t, "New", r, 0, nil)
	if root := r.Root(); hex.EncodeToString(root[:]) != hashOfNone || root != merkle.Root(nil) {
		t.Errorf("Root of no leaves: %x", root)
	}
	leaf := anyLeaves(1, 1)[0]
	wantAdd(t, "New", r, leaf, []api.Digest{leaf})
	wantRange(t, "another New", ranges.New(), 0, nil)
}

// P9.1: From

func TestFromOfKnown(t *testing.T) {
	l := anyLeaves(2, 3)
	peaks := []api.Digest{nodeOf(l[0], l[1]), l[2]}
	r := from(t, peaks, 3)
	wantOf(t, "From", r, l)
	wantNoFrom(t, peaks, 2)
}

// No peaks of no leaves are a range, too.
func TestFromOfNone(t *testing.T) {
	for _, none := range [][]api.Digest{nil, {}} {
		r := from(t, none, 0)
		wantRange(t, "From of none", r, 0, nil)
		leaf := anyLeaves(3, 1)[0]
		wantAdd(t, "From of none", r, leaf, []api.Digest{leaf})
	}
}

// Whatever the peaks are, they are taken as they are, if they are as many as the size has ones.
func TestFromOfEachSize(t *testing.T) {
	for _, size := range sizes() {
		peaks := anyLeaves(size, ones(size))
		wantRange(t, "From", from(t, peaks, size), size, peaks)
	}
}

func TestFromOfAnotherNumberOfPeaks(t *testing.T) {
	for _, size := range sizes() {
		for n := range 25 {
			if n != ones(size) {
				wantNoFrom(t, anyLeaves(4, n), size)
			}
		}
	}
	wantNoFrom(t, anyLeaves(4, 1000), 1)
	wantNoFrom(t, nil, mostLeaves)
	wantNoFrom(t, inRoom(nil), 1) // to reach into the room behind the peaks is wrong, too
}

func TestFromOfTooManyLeaves(t *testing.T) {
	for _, size := range []uint64{mostLeaves + 1, mostLeaves + 2, mostLeaves + 3, 2*mostLeaves - 1, 2 * mostLeaves, 3 * mostLeaves, 1 << 31, 1<<32 - 1, 1 << 32, 1<<32 + 1, 1<<32 + mostLeaves, 1 << 62, 1<<63 - 1, 1 << 63, 1<<63 + 1, math.MaxUint64 - 1, math.MaxUint64} {
		for n := range 70 {
			wantNoFrom(t, anyLeaves(5, n), size)
		}
	}
	one := anyLeaves(5, 1)
	wantRange(t, "From of all leaves", from(t, one, mostLeaves), mostLeaves, one)
}

// P9.2

func TestAddOfKnown(t *testing.T) {
	l := anyLeaves(6, 3)
	r := ranges.New()
	wantAdd(t, "a", r, l[0], []api.Digest{l[0]})
	wantAdd(t, "b", r, l[1], []api.Digest{l[1], nodeOf(l[0], l[1])})
	wantAdd(t, "c", r, l[2], []api.Digest{l[2]})
	wantRange(t, "a b c", r, 3, []api.Digest{nodeOf(l[0], l[1]), l[2]})
	if got, want := r.Root(), nodeOf(nodeOf(l[0], l[1]), l[2]); got != want {
		t.Errorf("Root of a b c: %x, want %x", got, want)
	}
}

func TestAddTellsAllWholeParts(t *testing.T) {
	l := anyLeaves(7, 2100)
	r := ranges.New()
	for i, x := range l {
		wantAdd(t, "Add", r, x, wholeOf(l[:i+1]))
		if got := r.Size(); got != uint64(i+1) {
			t.Fatalf("Size behind %d leaves: %d", i+1, got)
		}
	}
}

// Leaves that are the same stand one behind the other nonetheless.
func TestAddOfTheSameLeaf(t *testing.T) {
	for _, x := range []api.Digest{{}, anyLeaves(8, 1)[0], merkle.Root(nil)} {
		l := slices.Repeat([]api.Digest{x}, 70)
		r := ranges.New()
		for i := range l {
			wantAdd(t, "Add", r, x, wholeOf(l[:i+1]))
			wantOf(t, "the same leaf", r, l[:i+1])
		}
	}
}

func TestAddBehindAnyPeaks(t *testing.T) {
	for _, size := range sizes() {
		if size >= mostLeaves {
			continue
		}
		peaks, leaf := anyLeaves(size, ones(size)), anyLeaves(9, 1)[0]
		r := from(t, peaks, size)
		heads, anew := addedOf(peaks, size, leaf)
		wantAdd(t, "From", r, leaf, heads)
		wantRange(t, "Add", r, size+1, anew)
	}
}

// The last leaf ends a part of each length, all of them included.
func TestAddOfTheLastLeaf(t *testing.T) {
	peaks, leaf := anyLeaves(10, 20), anyLeaves(11, 1)[0]
	r := from(t, peaks, mostLeaves-1)
	heads, anew := addedOf(peaks, mostLeaves-1, leaf)
	if len(heads) != 21 || len(anew) != 1 {
		t.Fatalf("the last leaf ends %d parts, and leaves %d peaks", len(heads), len(anew))
	}
	wantAdd(t, "From", r, leaf, heads)
	wantRange(t, "the last leaf", r, mostLeaves, anew)
	for range 3 {
		wantFull(t, "the last leaf", r)
		wantRange(t, "ErrFull", r, mostLeaves, anew)
	}
	wantFull(t, "its copy", r.Copy())
	wantFull(t, "From of its peaks", from(t, r.Peaks(), r.Size()))
}

func TestAddOfAllLeaves(t *testing.T) {
	l := anyLeaves(12, mostLeaves)
	r := added(t, l)
	wantOf(t, "all leaves", r, l)
	wantFull(t, "all leaves", r)
	wantOf(t, "ErrFull", r, l)
}

// P9.3

func TestPeaksAndRootOfEachSize(t *testing.T) {
	l := anyLeaves(13, 600)
	r := ranges.New()
	for n := range l {
		wantOf(t, "Add", r, l[:n])
		wantAdd(t, "Add", r, l[n], wholeOf(l[:n+1]))
	}
	for _, size := range []int{1023, 1024, 1025, 3000, 4095, 4096, 4097} {
		l := anyLeaves(uint64(size), size)
		wantOf(t, "Add", added(t, l), l)
	}
}

func TestAskingChangesNothing(t *testing.T) {
	l := anyLeaves(14, 40)
	r := ranges.New()
	for n := range l {
		for range 3 {
			r.Root()
			r.Peaks()
			r.Size()
			r.Copy()
		}
		wantOf(t, "Add", r, l[:n])
		wantAdd(t, "Add", r, l[n], wholeOf(l[:n+1]))
	}
}

func TestCopyIsTheSame(t *testing.T) {
	for _, size := range sizes() {
		peaks := anyLeaves(size, ones(size))
		r := from(t, peaks, size)
		wantRange(t, "Copy", r.Copy(), size, peaks)
		wantRange(t, "what was copied", r, size, peaks)
	}
}

// Of a range and its copy each goes on by itself, whichever is first, and with other leaves.
func TestCopyLivesApart(t *testing.T) {
	for n := range 40 {
		l, one, two := anyLeaves(15, n), anyLeaves(16, 40), anyLeaves(17, 40)
		r := added(t, l)
		c := r.Copy()
		goOn(t, "the copy", c, l, two)
		wantOf(t, "a range whose copy went on", r, l)
		again := r.Copy()
		goOn(t, "what was copied", r, l, one)
		wantOf(t, "a copy of what went on", again, l)
		wantOf(t, "a copy that went on", c, slices.Concat(l, two))
		goOn(t, "a copy of a copy", again.Copy(), l, two)
		wantOf(t, "a copy whose copy went on", again, l)
	}
}

// A Range as a value shares nothing that is written to.
func TestValueLivesApart(t *testing.T) {
	for n := range 40 {
		l, one, two := anyLeaves(18, n), anyLeaves(19, 40), anyLeaves(20, 40)
		r := added(t, l)
		value := *r
		goOn(t, "a range", r, l, one)
		wantOf(t, "its value", &value, l)
		goOn(t, "its value", &value, l, two)
		wantOf(t, "the range", r, slices.Concat(l, one))
	}
}

// goOn adds more leaves to a range of leaves, and wants what there is by then, leaf by leaf.
func goOn(t *testing.T, what string, r *ranges.Range, leaves, more []api.Digest) {
	t.Helper()
	all := slices.Clone(leaves)
	for _, x := range more {
		all = append(all, x)
		wantAdd(t, what, r, x, wholeOf(all))
		wantOf(t, what, r, all)
	}
}

func TestNone(t *testing.T) {
	wantNone(t, "a nil range", nil)
	wantNone(t, "a zero Range", &ranges.Range{})
	wantNone(t, "a new Range", new(ranges.Range))
	failed, _ := ranges.From(anyLeaves(21, 2), 2)
	wantNone(t, "what From tells with an error", failed)
	wantNone(t, "a copy of none", failed.Copy())
}

// P9.4

func TestKnownTrees(t *testing.T) {
	r := ranges.New()
	for i, x := range known {
		b, err := hex.DecodeString(x.leaf)
		if err != nil {
			t.Fatal(err)
		}
		if _, e := r.Add(merkle.Leaf(b)); e != api.OK {
			t.Fatalf("Add: error %d", e)
		}
		if root := r.Root(); hex.EncodeToString(root[:]) != x.head {
			t.Errorf("Root of %d known leaves: %x, want %s", i+1, root, x.head)
		}
	}
}

func TestRootIsThatOfAllLeaves(t *testing.T) {
	l := anyLeaves(22, 1100)
	r := ranges.New()
	for n := range l {
		if got, want := r.Root(), merkle.Root(l[:n]); got != want {
			t.Fatalf("Root of %d leaves: %x, merkle's %x", n, got, want)
		}
		r.Add(l[n])
	}
}

func TestPeaksAreTheHeadsOfTheirParts(t *testing.T) {
	l := anyLeaves(23, 600)
	r := ranges.New()
	for n := range l {
		at := 0
		for i, peak := range r.Peaks() {
			many := 512
			for at+many > n {
				many /= 2
			}
			if got, e := merkle.Sub(l, at, at+many); e != api.OK || got != peak {
				t.Fatalf("of %d leaves, peak %d is not the head of those from %d to %d", n, i, at, at+many)
			}
			at += many
		}
		if at != n {
			t.Fatalf("of %d leaves, the peaks have %d", n, at)
		}
		r.Add(l[n])
	}
}

func TestWhatAddTellsStandsInLevels(t *testing.T) {
	l := anyLeaves(24, 300)
	levels := merkle.Levels(l)
	r := ranges.New()
	told := make([][]api.Digest, len(levels))
	for _, x := range l {
		heads, _ := r.Add(x)
		for i, head := range heads {
			told[i] = append(told[i], head)
		}
	}
	for i := range levels {
		if !slices.Equal(told[i], levels[i]) {
			t.Errorf("level %d: Add told %d heads, want the %d of Levels", i, len(told[i]), len(levels[i]))
		}
	}
}

// A range goes on as the one that its peaks and size were of, wherever it is made anew.
func TestFromGoesOn(t *testing.T) {
	l := anyLeaves(25, 140)
	r := ranges.New()
	for n := range l {
		goOn(t, "From", from(t, r.Peaks(), r.Size()), l[:n], l[n:])
		wantOf(t, "what From was of", r, l[:n])
		r.Add(l[n])
	}
}

func TestFromAfterEachLeaf(t *testing.T) {
	l := anyLeaves(26, 600)
	r := ranges.New()
	for n, x := range l {
		wantAdd(t, "From", r, x, wholeOf(l[:n+1]))
		r = from(t, r.Peaks(), r.Size())
		wantOf(t, "From", r, l[:n+1])
	}
}

// R3

// What is handed in has room behind it, which an append in place would write to.
func TestPeaksThatAreHandedInAreOnlyReadAndNotKept(t *testing.T) {
	leaf := anyLeaves(27, 1)[0]
	for size := range uint64(140) {
		peaks := anyLeaves(size, ones(size))
		handed := inRoom(peaks)
		before := slices.Clone(handed[:cap(handed)])
		r := from(t, handed, size)
		heads, anew := addedOf(peaks, size, leaf)
		c := r.Copy()
		wantAdd(t, "From", c, leaf, heads)
		wantAdd(t, "From", from(t, handed, size), leaf, heads)
		if !slices.Equal(handed[:cap(handed)], before) {
			t.Fatalf("size %d: peaks that were handed in have changed", size)
		}
		spoil(handed)
		wantRange(t, "From, behind a change of what was handed in", r, size, peaks)
		wantRange(t, "a copy, behind a change of what was handed in", c, size+1, anew)
		wantAdd(t, "From, behind a change of what was handed in", r, leaf, heads)
	}
}

func TestWhatIsAnsweredIsNewMemory(t *testing.T) {
	l := anyLeaves(28, 140)
	r := ranges.New()
	for n, x := range l {
		one, two := r.Peaks(), r.Peaks()
		spoil(one)
		if !slices.Equal(two, peaksOf(l[:n])) {
			t.Fatalf("of %d leaves, two answers of Peaks share memory", n)
		}
		wantOf(t, "behind a change of its Peaks", r, l[:n])
		c := r.Copy()
		heads, e := r.Add(x)
		same, f := c.Add(x)
		if e != api.OK || f != api.OK {
			t.Fatalf("Add behind %d leaves: errors %d, %d", n, e, f)
		}
		spoil(heads)
		if !slices.Equal(same, wholeOf(l[:n+1])) {
			t.Fatalf("of %d leaves, a range's Add and its copy's share memory", n+1)
		}
		wantOf(t, "behind a change of what Add told", r, l[:n+1])
		wantOf(t, "its copy", c, l[:n+1])
	}
}

// R7

func TestManyAtOnce(t *testing.T) {
	l := anyLeaves(29, 300)
	shared := added(t, l[:150])
	var all sync.WaitGroup
	for g := range 8 {
		all.Go(func() {
			r := ranges.New()
			for n, x := range l[:100+g] {
				heads, e := r.Add(x)
				if e != api.OK || !slices.Equal(heads, wholeOf(l[:n+1])) || r.Root() != headOf(l[:n+1]) {
					t.Errorf("Add behind %d leaves: %x, error %d", n, heads, e)
				}
				c := shared.Copy()
				c.Add(x)
				if c.Size() != 151 || shared.Root() != headOf(l[:150]) || !slices.Equal(shared.Peaks(), peaksOf(l[:150])) {
					t.Error("a range that many copy has changed")
				}
			}
		})
	}
	all.Wait()
}

// kept is a range, and the leaves that it is of.
type kept struct {
	r      *ranges.Range
	leaves []api.Digest
}

// Each byte of a script is a step of one of some ranges: a leaf more, a copy of it, or one made of its peaks.
func FuzzSteps(f *testing.F) {
	f.Add([]byte{0, 0, 0, 0, 1, 0, 4, 2, 0, 4, 3, 7})
	f.Add([]byte("any steps, whatever they do"))
	f.Add(slices.Repeat([]byte{0}, 70))
	f.Add(slices.Repeat([]byte{0, 0, 1, 4, 4, 2, 8}, 12))
	f.Fuzz(func(t *testing.T, script []byte) {
		if len(script) > 300 {
			return
		}
		all := []kept{{r: ranges.New()}}
		leaves := anyLeaves(30, len(script))
		for i, b := range script {
			at := int(b>>2) % len(all)
			one := all[at]
			switch {
			case b%4 == 1 && len(all) < 20:
				all = append(all, kept{one.r.Copy(), one.leaves})
			case b%4 == 2 && len(all) < 20:
				all = append(all, kept{from(t, one.r.Peaks(), one.r.Size()), one.leaves})
			default:
				all[at].leaves = append(slices.Clone(one.leaves), leaves[i])
				wantAdd(t, "a step", one.r, leaves[i], wholeOf(all[at].leaves))
			}
		}
		for _, x := range all {
			wantOf(t, "behind the steps", x.r, x.leaves)
		}
	})
}

func FuzzFrom(f *testing.F) {
	f.Add([]byte{}, uint64(0))
	f.Add(make([]byte, api.Hash), uint64(1))
	f.Add(make([]byte, 2*api.Hash), uint64(2))
	f.Add(make([]byte, 20*api.Hash), uint64(mostLeaves-1))
	f.Add(make([]byte, api.Hash), uint64(mostLeaves))
	f.Add(make([]byte, 2*api.Hash), uint64(mostLeaves+1))
	f.Add(make([]byte, 64*api.Hash), uint64(math.MaxUint64))
	f.Fuzz(func(t *testing.T, b []byte, size uint64) {
		peaks := inRoom(hashesOf(b))
		if size > mostLeaves || len(peaks) != ones(size) {
			wantNoFrom(t, peaks, size)
			return
		}
		r := from(t, peaks, size)
		wantRange(t, "From", r, size, peaks)
		if size == mostLeaves {
			wantFull(t, "From", r)
			return
		}
		leaf := anyLeaves(31, 1)[0]
		heads, anew := addedOf(peaks, size, leaf)
		wantAdd(t, "From", r, leaf, heads)
		wantRange(t, "Add", r, size+1, anew)
	})
}
