package store_test

import (
	"fmt"
	"math"
	"math/big"
	"slices"
	"strings"
	"testing"

	"escritoire/api"
	"escritoire/files"
	"escritoire/merkle"
	"escritoire/place"
	"escritoire/store"
)

// What each promise is held against are limits of the tests' own, which are the given ones.
func TestLimits(t *testing.T) {
	if api.Hash != 32 || api.Width != width || api.Height != height || api.MaxLeaves != mostLeaves || api.MaxChain != mostCerts || api.MaxCert != mostBytes || api.MaxFiles != mostFiles {
		t.Fatal("the limits are others")
	}
}

// The chapter's examples, as they stand there.
func TestExamples(t *testing.T) {
	d := newDisk(t)
	s := open(t, d, 0)
	wantOK(t, s.Add(entriesOf(0, 18)))
	want := []string{"b-000000-16", "b-000001-02", "t0-000000-16", "t0-000001-02", "t1-000000-01"}
	if got := d.Names(); !slices.Equal(got, want) {
		t.Errorf("the files are %q, want %q", got, want)
	}
	if got := store.Wanted(18); !slices.Equal(got, want) {
		t.Errorf("Wanted(18): %q, want %q", got, want)
	}
	x := treeOf(entriesOf(0, 18))
	wantHash(t, "Root", s.Root, 0, 18, merkle.Root(x.nodes[0]))
	wantHash(t, "Root", s.Root, 16, 18, merkle.Node(x.nodes[0][16], x.nodes[0][17]))
	wantNoRoot(t, "of 18", s, 2, 18, api.ErrArg)
	wantNoRoot(t, "of 18", s, 0, 19, api.ErrRange)
}

// P18.1: Open, Size

func TestOpenOfNoDisk(t *testing.T) {
	for what, d := range map[string]*files.Disk{"nil": nil, "zero": {}, "new": new(files.Disk)} {
		for _, size := range []uint64{0, 1, mostLeaves, mostLeaves + 1, math.MaxUint64} {
			wantNoStore(t, what, d, size, api.ErrNil)
		}
	}
}

// wantNoStore wants Open to tell an error alone.
func wantNoStore(t *testing.T, what string, d *files.Disk, size uint64, want api.Errno) {
	t.Helper()
	if s, e := store.Open(d, size); s != nil || e != want {
		t.Errorf("%s: Open of %d: %v, error %d, want error %d alone", what, size, s, e, want)
	}
}

func TestOpenWithoutPower(t *testing.T) {
	d := diskOf(t, treeOf(entriesOf(0, 5)))
	off(t, d)
	for _, size := range []uint64{0, 1, 5, mostLeaves, mostLeaves + 1, math.MaxUint64} {
		wantNoStore(t, "no power", d, size, api.ErrOff)
	}
	d.Crash(nil)
	wantTree(t, "power on", d, treeOf(entriesOf(0, 5)))
}

func TestOpenOfTooMany(t *testing.T) {
	for _, size := range []uint64{mostLeaves + 1, mostLeaves + 2, 2 * mostLeaves, 1 << 32, 1<<32 + 1, 1 << 63, math.MaxUint64} {
		wantNoStore(t, "too many", newDisk(t), size, api.ErrArg)
	}
}

// Nothing is read: of each size there is a store, whatever the disk has; and nothing is changed.
func TestOpenReadsNothing(t *testing.T) {
	for _, size := range []uint64{0, 1, 16, 17, 300, mostLeaves - 1, mostLeaves} {
		d := newDisk(t)
		write(t, d, "b-000000-16", "no bundle")
		before := filesOf(t, d)
		d.Fuse(1)
		open(t, d, size)
		wantFiles(t, "Open", d, before)
		wantError(t, "Create, Fuse(1)", d.Create("x"), api.ErrOff)
	}
}

// To open it twice is to open it once; both share the disk, and each has a size of its own.
func TestOpenTwice(t *testing.T) {
	x := treeOf(entriesOf(0, 40))
	d := diskOf(t, x.first(20))
	a, b := open(t, d, 20), open(t, d, 20)
	wantOK(t, a.Add(x.entries[20:]))
	if a.Size() != 40 || b.Size() != 20 {
		t.Errorf("the sizes are %d, %d", a.Size(), b.Size())
	}
	wantNoEntry(t, "the other one", b, 20, api.ErrRange)
	wantTree(t, "the one", d, x)
	wantTree(t, "the other one", d, x.first(20))
}

// Of no store, all calls tell that, whatever else is wrong.
func TestNoStore(t *testing.T) {
	for what, s := range noStores() {
		if n := s.Size(); n != 0 {
			t.Errorf("%s: Size is %d", what, n)
		}
		for _, n := range []place.Node{{}, {Level: 4}, {Level: -1}, {Level: 21}, {Index: mostLeaves}} {
			wantNoNode(t, what, s, n, api.ErrNil)
		}
		for _, n := range []uint64{0, 1, 16, math.MaxUint64} {
			wantNoEntry(t, what, s, n, api.ErrNil)
			wantNoRoot(t, what, s, 0, n, api.ErrNil)
			wantNoRoot(t, what, s, n, 0, api.ErrNil)
		}
		for _, l := range [][]api.Entry{nil, entriesOf(0, 1), {{}}} {
			wantError(t, what+": Add", s.Add(l), api.ErrNil)
		}
		wantError(t, what+": Clean", s.Clean(), api.ErrNil)
	}
}

// Without power all calls tell that, whatever else is wrong; the size is told.
func TestStoreWithoutPower(t *testing.T) {
	for _, size := range []int{0, 5, 16, 33} {
		x := treeOf(entriesOf(0, size))
		d := diskOf(t, x)
		s := open(t, d, uint64(size))
		write(t, d, "b-000007-03", "to be cleaned")
		off(t, d)
		before := filesOf(t, d)
		for _, n := range []place.Node{{}, {Level: 1}, {Level: 4}, {Level: -1}, {Level: 21}, {Index: 10000}, {Index: mostLeaves}} {
			wantNoNode(t, "no power", s, n, api.ErrOff)
		}
		for _, n := range []uint64{0, 1, 5, 16, math.MaxUint64} {
			wantNoEntry(t, "no power", s, n, api.ErrOff)
			wantNoRoot(t, "no power", s, 0, n, api.ErrOff)
			wantNoRoot(t, "no power", s, n, 0, api.ErrOff)
		}
		for _, l := range [][]api.Entry{nil, entriesOf(0, 1), {{}}, make([]api.Entry, mostLeaves+1)} {
			wantError(t, "no power: Add", s.Add(l), api.ErrOff)
		}
		wantError(t, "no power: Clean", s.Clean(), api.ErrOff)
		if s.Size() != uint64(size) {
			t.Errorf("Size is %d, want %d", s.Size(), size)
		}
		wantFiles(t, "no power", d, before)
		d.Crash(nil)
		wantOK(t, s.Clean())
		wantTree(t, "power on", d, x)
	}
}

// P18.1: Wanted

func TestWanted(t *testing.T) {
	sizes := []uint64{4095, 4096, 4097, 65535, 65536, 65537, 123456, mostLeaves - 1, mostLeaves - 16, mostLeaves - 17, mostLeaves}
	for size := range uint64(600) {
		sizes = append(sizes, size)
	}
	for _, size := range sizes {
		got, want := store.Wanted(size), (&byWords{size: int(size)}).wanted()
		if !slices.Equal(got, want) {
			t.Fatalf("Wanted(%d): %d names, want %d", size, len(got), len(want))
		}
		if !slices.IsSorted(got) || len(slices.Compact(got)) != len(want) {
			t.Fatalf("Wanted(%d): the names do not rise", size)
		}
	}
	if l := store.Wanted(mostLeaves); len(l) != 2*65536+4096+256+16+1+1 || l[len(l)-1] != "t5-000000-01" {
		t.Errorf("Wanted of all: %d names, the last one is %q", len(l), l[len(l)-1])
	}
}

func TestWantedOfNoneAndTooMany(t *testing.T) {
	for _, size := range []uint64{0, mostLeaves + 1, mostLeaves + 16, 2 * mostLeaves, 1 << 32, 1<<32 + 1, 1 << 63, math.MaxUint64} {
		if l := store.Wanted(size); len(l) != 0 {
			t.Errorf("Wanted(%d): %d names", size, len(l))
		}
	}
}

// P18.2: Node, Entry

// Of each small size, and of some around the powers of 16, all nodes and entries are told.
func TestNodeAndEntry(t *testing.T) {
	x := treeOf(entriesOf(0, 530))
	for size := range 66 {
		wantTree(t, "small", diskOf(t, x.first(size)), x.first(size))
	}
	for _, size := range []int{127, 128, 239, 240, 241, 255, 256, 257, 271, 272, 273, 511, 512, 513, 530} {
		wantTree(t, "greater", diskOf(t, x.first(size)), x.first(size))
	}
}

// wrong are nodes that may not be.
func wrong() []place.Node {
	out := []place.Node{{Level: -1}, {Level: -4}, {Level: 21}, {Level: 24}, {Level: math.MaxInt}, {Level: math.MinInt}, {Level: -1, Index: math.MaxUint64}, {Level: 1 << 32}}
	for level := range topLevel + 1 {
		for _, n := range []uint64{1 << (20 - level), 1<<(20-level) + 1, 1 << 32, 1 << 63, math.MaxUint64, 1 << (64 - level - 1), math.MaxUint64 >> level} {
			out = append(out, place.Node{Level: level, Index: n})
		}
	}
	return out
}

func TestNodeThatMayNotBe(t *testing.T) {
	x := treeOf(entriesOf(0, 20))
	d := diskOf(t, x)
	for _, s := range []*store.Store{open(t, d, 20), open(t, d, 0), open(t, d, mostLeaves)} {
		for _, n := range wrong() {
			if !place.May(n) {
				wantNoNode(t, "may not be", s, n, api.ErrArg)
			}
		}
	}
}

// A node that may be, and has a leaf from the size on, be it the last one of them.
func TestNodeBeyondTheSize(t *testing.T) {
	for size := range uint64(70) {
		s := open(t, newDisk(t), size)
		for level := range topLevel + 1 {
			for _, n := range []uint64{size >> level, size>>level + 1, 1<<(20-level) - 1} {
				if n < 1<<(20-level) {
					wantNoNode(t, fmt.Sprint("of ", size), s, place.Node{Level: level, Index: n}, api.ErrRange)
				}
			}
		}
	}
	s := open(t, newDisk(t), mostLeaves-1)
	wantNoNode(t, "all but one", s, place.Node{Level: 20}, api.ErrRange)
	wantNoNode(t, "all but one", s, place.Node{Index: mostLeaves - 1}, api.ErrRange)
	wantNoNode(t, "all but one, no tile", s, place.Node{Index: mostLeaves - 2}, api.ErrState)
}

func TestEntryBeyondTheSize(t *testing.T) {
	x := treeOf(entriesOf(0, 40))
	d := diskOf(t, x)
	for _, size := range []uint64{0, 1, 15, 16, 17, 40} {
		s := open(t, d, size)
		for _, i := range []uint64{size, size + 1, size + 16, mostLeaves - 1, mostLeaves, 1 << 32, 1 << 63, math.MaxUint64} {
			wantNoEntry(t, fmt.Sprint("of ", size), s, i, api.ErrRange)
		}
	}
}

// The nodes of the tree of all leaves that may be, and of as few files as tell them.
func TestGreatestTree(t *testing.T) {
	d := newDisk(t)
	for level := range tileLevels {
		write(t, d, tileName(level, 0, []int{16, 16, 16, 16, 16, 1}[level]), tileOf(hashesOf(100*level, 100*level+[]int{16, 16, 16, 16, 16, 1}[level])))
	}
	write(t, d, tileName(0, 65535, 16), tileOf(hashesOf(1000, 1016)))
	write(t, d, bundleName(65535, 16), bundleOf(entriesOf(0, 16)))
	s := open(t, d, mostLeaves)
	for level := range tileLevels {
		if got, e := s.Node(place.Node{Level: 4 * level}); e != api.OK || got != hashOf(100*level) {
			t.Errorf("the first node of level %d: %x, error %d", 4*level, got, e)
		}
	}
	wantHash(t, "Root", s.Root, 0, mostLeaves, hashOf(500))
	wantHash(t, "Root", s.Root, 0, 1<<19, rootOf(hashesOf(400, 408)))
	wantHash(t, "Root", s.Root, mostLeaves-4, mostLeaves-1, rootOf(hashesOf(1012, 1015)))
	if got, e := s.Node(place.Node{Index: mostLeaves - 1}); e != api.OK || got != hashOf(1015) {
		t.Errorf("the last leaf: %x, error %d", got, e)
	}
	if got, e := s.Entry(mostLeaves - 1); e != api.OK || !equal(got, entryOf(15)) {
		t.Errorf("the last entry: %v, error %d", got, e)
	}
	wantNoNode(t, "no tile", s, place.Node{Level: 4, Index: 65535}, api.ErrState)
	wantNoEntry(t, "no bundle", s, mostLeaves-17, api.ErrState)
	wantNoRoot(t, "too many", s, 0, mostLeaves+1, api.ErrRange)
	wantError(t, "Add", s.Add(entriesOf(0, 1)), api.ErrFull)
	wantError(t, "Add of what may not be", s.Add([]api.Entry{{}}), api.ErrArg)
	wantOK(t, s.Add(nil))
}

// What a tile of a level says counts for the nodes of that level, and of the three above it, whatever the tiles beneath say.
func TestNodeIsWhatItsTileSays(t *testing.T) {
	d := diskOf(t, treeOf(entriesOf(0, 300)))
	write(t, d, tileName(1, 1, 2), tileOf(hashesOf(0, 2)))
	write(t, d, tileName(0, 3, 16), tileOf(hashesOf(10, 26)))
	s := open(t, d, 300)
	for n, want := range map[place.Node]api.Digest{
		{Level: 4, Index: 16}: hashOf(0),
		{Level: 4, Index: 17}: hashOf(1),
		{Level: 5, Index: 8}:  nodeOf(hashOf(0), hashOf(1)),
		{Level: 0, Index: 48}: hashOf(10),
		{Level: 0, Index: 63}: hashOf(25),
		{Level: 1, Index: 25}: nodeOf(hashOf(12), hashOf(13)),
		{Level: 2, Index: 15}: rootOf(hashesOf(22, 26)),
		{Level: 3, Index: 6}:  rootOf(hashesOf(10, 18)),
		{Level: 4, Index: 3}:  treeOf(entriesOf(0, 300)).nodes[4][3],
	} {
		if got, e := s.Node(n); e != api.OK || got != want {
			t.Errorf("Node(%v): %x, error %d, want %x", n, got, e, want)
		}
	}
}

// Each node hangs on the one tile that it is in, and each entry on its bundle: without it, with another length, with the width of another size they tell ErrState, and with no other file.
func TestNodeAndEntryOfAFileThatIsNone(t *testing.T) {
	x := treeOf(entriesOf(0, 300))
	for _, f := range x.files() {
		for what, b := range spoilt(f.lasts) {
			d := diskOf(t, x)
			wantOK(t, d.Remove(f.name))
			if what != "none" {
				write(t, d, f.name, b)
			}
			wantWithout(t, fmt.Sprintf("%s: %s", f.name, what), open(t, d, 300), x, f.name)
		}
	}
}

// spoilt are what may stand in a file in the place of its bytes, and is not of its form or width; none: the file itself is not there.
func spoilt(b string) map[string]string {
	return map[string]string{
		"none":             "",
		"empty":            "",
		"a byte less":      b[:len(b)-1],
		"a byte more":      b + "\x00",
		"a hash less":      b[:max(0, len(b)-32)],
		"a hash more":      b + strings.Repeat("\x01", 32),
		"the first twice":  b[:min(32, len(b))] + b,
		"a bundle of one":  bundleOf(entriesOf(0, 1)),
		"a bundle of 13":   bundleOf(entriesOf(0, 13)),
		"a tile of 17":     tileOf(hashesOf(0, 17)),
		"a bundle of 17":   bundleOf(entriesOf(0, 17)),
		"an entry of none": bundleOf([]api.Entry{of(1)}),
		"noughts":          strings.Repeat("\x00", 47),
	}
}

// wantWithout wants a store of 300 to tell ErrState of what stands in that file, and all else.
func wantWithout(t *testing.T, what string, s *store.Store, x *tree, file string) {
	t.Helper()
	for level := range 9 {
		for i, want := range x.nodes[level] {
			n := place.Node{Level: level, Index: uint64(i)}
			number := i << (level % height) / width
			if got, e := s.Node(n); tileName(level/height, number, min(300>>(level/height*height)-number*width, width)) == file {
				if e != api.ErrState || got != (api.Digest{}) {
					t.Fatalf("%s: Node(%v): %x, error %d, want ErrState alone", what, n, got, e)
				}
			} else if e != api.OK || got != want {
				t.Fatalf("%s: Node(%v): %x, error %d, want %x", what, n, got, e, want)
			}
		}
	}
	for i, want := range x.entries {
		if bundleName(i/width, min(300-i/width*width, width)) == file {
			wantNoEntry(t, what, s, uint64(i), api.ErrState)
		} else if got, e := s.Entry(uint64(i)); e != api.OK || !equal(got, want) {
			t.Fatalf("%s: Entry(%d): %v, error %d", what, i, got, e)
		}
	}
}

// The file of another width does not count, though it has all that is asked for.
func TestNodeAndEntryOfAnotherWidth(t *testing.T) {
	x := treeOf(entriesOf(0, 20))
	for _, size := range []int{17, 18, 19, 21, 24, 31, 32, 33} {
		s := open(t, diskOf(t, x), uint64(size))
		for i := 16; i < min(size, 32); i++ {
			wantNoNode(t, fmt.Sprint(size), s, place.Node{Index: uint64(i)}, api.ErrState)
			wantNoEntry(t, fmt.Sprint(size), s, uint64(i), api.ErrState)
		}
		wantNode(t, "the first tile", s, place.Node{Index: 15}, x)
		if got, e := s.Entry(15); e != api.OK || !equal(got, entryOf(15)) {
			t.Errorf("the first bundle: %v, error %d", got, e)
		}
	}
}

// What the disk has now is told: nothing is kept.
func TestNodeAndEntryAreTheDisks(t *testing.T) {
	x, y := treeOf(entriesOf(0, 20)), treeOf(entriesOf(100, 120))
	d := diskOf(t, x)
	s := open(t, d, 20)
	wantNode(t, "first", s, place.Node{Level: 2}, x)
	for _, f := range y.files() {
		write(t, d, f.name, f.lasts)
	}
	wantNode(t, "then", s, place.Node{Level: 2}, y)
	wantNode(t, "then", s, place.Node{Level: 4}, y)
	if got, e := s.Entry(3); e != api.OK || !equal(got, entryOf(103)) {
		t.Errorf("then: Entry(3): %v, error %d", got, e)
	}
	wantOK(t, d.Remove("t0-000000-16"), d.Remove("b-000000-16"))
	wantNoNode(t, "removed", s, place.Node{Level: 2}, api.ErrState)
	wantNoEntry(t, "removed", s, 3, api.ErrState)
	wantNode(t, "not removed", s, place.Node{Level: 4}, y)
}

// Loose bytes are told as well as those that last.
func TestNodeAndEntryOfLooseFiles(t *testing.T) {
	x := treeOf(entriesOf(0, 20))
	d := newDisk(t)
	for _, f := range x.files() {
		wantOK(t, d.Create(f.name), d.Append(f.name, []byte(f.lasts)))
	}
	wantTree(t, "loose", d, x)
}

func TestEntryIsNewMemory(t *testing.T) {
	x := treeOf(entriesOf(0, 20))
	d := diskOf(t, x)
	s := open(t, d, 20)
	for i := range uint64(20) {
		got, _ := s.Entry(i)
		spoilEntry(got)
	}
	wantTree(t, "entries spoilt", d, x)
}

// P18.3: Root

// mayBegin tells whether RFC 6962's tree has such a part, in numbers without end.
func mayBegin(from, to uint64) bool {
	if from >= to {
		return false
	}
	power, n := big.NewInt(1), new(big.Int).SetUint64(to-from)
	for power.Cmp(n) < 0 {
		power.Lsh(power, 1)
	}
	return new(big.Int).Mod(new(big.Int).SetUint64(from), power).Sign() == 0
}

func TestRoot(t *testing.T) {
	x := treeOf(entriesOf(0, 70))
	d := diskOf(t, x)
	for _, size := range []int{0, 1, 2, 3, 16, 17, 33, 70} {
		d := d
		if size < 70 {
			d = diskOf(t, x.first(size))
		}
		s := open(t, d, uint64(size))
		for from := range uint64(75) {
			for to := range uint64(75) {
				switch {
				case !mayBegin(from, to):
					wantNoRoot(t, fmt.Sprint(size), s, from, to, api.ErrArg)
				case to > uint64(size):
					wantNoRoot(t, fmt.Sprint(size), s, from, to, api.ErrRange)
				default:
					wantHash(t, fmt.Sprint("of ", size, ": Root"), s.Root, from, to, rootOf(x.nodes[0][from:to]))
				}
			}
		}
	}
}

// Parts of a tree of two levels of tiles and more, and merkle's heads of them.
func TestRootOfMore(t *testing.T) {
	x := treeOf(entriesOf(0, 700))
	s := open(t, diskOf(t, x), 700)
	for _, p := range [][2]uint64{{0, 255}, {0, 256}, {0, 257}, {256, 300}, {256, 512}, {512, 700}, {512, 699}, {0, 511}, {0, 512}, {0, 513}, {0, 700}, {640, 700}, {688, 700}, {696, 700}, {699, 700}} {
		want, e := merkle.Sub(x.nodes[0], int(p[0]), int(p[1]))
		wantOK(t, e)
		wantHash(t, "Root", s.Root, p[0], p[1], want)
	}
}

// Numbers so great that sums and powers of them are none.
func TestRootOfGreatNumbers(t *testing.T) {
	var l []uint64
	for shift := range 64 {
		l = append(l, 1<<shift, 1<<shift-1, 1<<shift+1, 3<<shift, ^uint64(0)<<shift)
	}
	l = append(l, math.MaxUint64-1)
	for _, size := range []uint64{0, mostLeaves} {
		s := open(t, newDisk(t), size)
		for _, from := range l {
			for _, to := range l {
				want := api.ErrState
				if !mayBegin(from, to) {
					want = api.ErrArg
				} else if to > size {
					want = api.ErrRange
				}
				wantNoRoot(t, fmt.Sprint(size), s, from, to, want)
			}
		}
	}
}

// Whichever tile of a part is not there, Node's error is told.
func TestRootWithoutATile(t *testing.T) {
	x := treeOf(entriesOf(0, 300))
	for _, name := range []string{"t1-000000-16", "t1-000001-02", "t0-000018-12", "t2-000000-01"} {
		d := diskOf(t, x)
		wantOK(t, d.Remove(name))
		s := open(t, d, 300)
		for _, p := range [][2]uint64{{0, 300}, {256, 300}, {0, 256}, {0, 128}, {0, 255}, {288, 300}, {256, 288}} {
			r := &byWords{disk: d, size: 300}
			want, e := r.root(p[0], p[1])
			if e == api.OK {
				wantHash(t, "without "+name+": Root", s.Root, p[0], p[1], want)
			} else {
				wantNoRoot(t, "without "+name, s, p[0], p[1], api.ErrState)
			}
		}
	}
}

// Each bundle may be gone: Root needs none.
func TestRootNeedsTilesAlone(t *testing.T) {
	x := treeOf(entriesOf(0, 300))
	d := diskOf(t, x)
	for _, name := range d.Names() {
		if name[0] == 'b' || name[:2] == "t0" && name != "t0-000018-12" {
			wantOK(t, d.Remove(name))
		}
	}
	wantHash(t, "Root", open(t, d, 300).Root, 0, 300, rootOf(x.nodes[0]))
}
