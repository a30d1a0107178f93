package tiles_test

import (
	"crypto/sha256"
	"fmt"
	"math"
	"slices"
	"strings"
	"testing"

	"escritoire/api"
	"escritoire/tiles"
)

// What each promise is held against are limits of the tests' own, which are the given ones.
func TestLimits(t *testing.T) {
	if api.Hash != hashBytes || api.Width != width || api.Height != 4 || api.MaxLeaves != mostLeaves {
		t.Fatalf("hashes of %d bytes, tiles of %d, %d levels high, %d leaves", api.Hash, api.Width, api.Height, api.MaxLeaves)
	}
}

// The chapter's examples, as they stand there.
func TestExamples(t *testing.T) {
	for want, x := range map[string]named{"t0-000003-16": {0, 3, 16}, "t5-999999-01": {5, 999999, 1}} {
		if got, e := tiles.Name(x.level, x.number, x.width); e != api.OK || got != want {
			t.Errorf("Name(%v): %q, error %d", x, got, e)
		}
	}
	for _, x := range []named{{6, 0, 1}, {0, 1000000, 1}, {0, 0, 17}} {
		if got, e := tiles.Name(x.level, x.number, x.width); e != api.ErrArg || got != "" {
			t.Errorf("Name(%v): %q, error %d", x, got, e)
		}
	}
	for _, name := range []string{"t0-000003-00", "t0-3-16", "t0-000003-1"} {
		if level, number, n, e := tiles.Parse(name); e != api.ErrForm || level != 0 || number != 0 || n != 0 {
			t.Errorf("Parse(%q): %d, %d, %d, error %d", name, level, number, n, e)
		}
	}
	if a, b, c := tiles.Count(300, 0), tiles.Count(300, 1), tiles.Count(300, 2); a != 300 || b != 18 || c != 1 {
		t.Errorf("Count of 300: %d, %d, %d", a, b, c)
	}
	if whole, left := tiles.Need(300, 1); whole != 1 || left != 2 {
		t.Errorf("Need(300, 1): %d, %d", whole, left)
	}
}

// P16.1: Name

func TestName(t *testing.T) {
	for _, x := range some() {
		if got, e := tiles.Name(x.level, x.number, x.width); e != api.OK || got != nameOf(x) {
			t.Errorf("Name(%v): %q, error %d, want %q", x, got, e, nameOf(x))
		}
	}
}

func TestNameOfWhatMayNotBe(t *testing.T) {
	for _, x := range none() {
		if got, e := tiles.Name(x.level, x.number, x.width); e != api.ErrArg || got != "" {
			t.Errorf("Name(%v): %q, error %d, want ErrArg alone", x, got, e)
		}
	}
}

// P16.1: Parse

func TestParse(t *testing.T) {
	for _, x := range some() {
		wantParse(t, nameOf(x))
	}
	for level := range 10 {
		for n := range 100 {
			wantParse(t, fmt.Sprintf("t%d-000007-%02d", level, n))
		}
	}
}

func TestParseOfNoName(t *testing.T) {
	for _, name := range []string{
		"", "t", "t0", "t0-", "t-000003-16", "t0-000003", "t0-000003-", "t0--16", "t00-000003-16", "t0-0000003-16", "t0-00003-16", "t0-000003-016", "t0-1000000-16", "t0-000003-6",
		"T0-000003-16", "t6-000003-16", "t9-000003-16", "t-1-000003-16", "t0-000003-17", "t0-000003-99", "t0-000003-100", "t0_000003_16", "t0.000003.16", "t0000003-16", "t0-00000316",
		" t0-000003-16", "t0-000003-16 ", "t0-000003-16\n", "t0-000003-16\x00", "t0-000003-16-", "xt0-000003-16", "t0-000003-16t0-000003-16",
		"t0-+00003-16", "t0--00003-16", "t0-00_003-16", "t0-0x0003-16", "t0-1e0003-16", "t0- 00003-16", "t0-000003-+1", "t0-000003--1", "t0-000003- 1", "t0-000003-1_", "t+-000003-16", "t0-000003-0x", "t0-00000a-16", "t0-00000A-10", "t0-000003-1a",
		"t\u0663-000003-16", "t0-\u0663\u0663\u0663-16", "t0-000003-\u0663", "t0-00000\uff13-16", "t0\u2010000003-16", "b-000003-07", "wal-00000001", "head", "t0-000003-16.new",
		strings.Repeat("t", 1000), strings.Repeat("0", 1000), "t0-" + strings.Repeat("0", 1000) + "3-16",
	} {
		if _, is := read(name); is {
			t.Fatalf("%q is a name", name)
		}
		wantParse(t, name)
	}
}

// Whatever stands at whichever place of a name, and whatever is missing there, or is more.
func TestParseOfNearlyNames(t *testing.T) {
	for _, name := range []string{"t0-000003-16", "t5-999999-01", "t3-123456-10"} {
		for i := range len(name) + 1 {
			wantParse(t, name[:i])
			wantParse(t, name[i:])
			for c := range 256 {
				x := string([]byte{byte(c)})
				wantParse(t, name[:i]+x+name[i:])
				if i < len(name) {
					wantParse(t, name[:i]+x+name[i+1:])
				}
			}
			for j := i; j <= len(name); j++ {
				wantParse(t, name[:i]+name[j:])
			}
		}
	}
}

func FuzzParse(f *testing.F) {
	for _, x := range []string{"", "t0-000003-16", "t5-999999-01", "t0-000003-00", "t0-3-16", "t0-000003-1"} {
		f.Add(x)
	}
	f.Fuzz(func(t *testing.T, name string) { wantParse(t, name) })
}

// P16.2: Count, Need

// sizes are those at and around the powers of 16, and of 2; and others.
func sizes() []uint64 {
	out := []uint64{0, 300, 12345678, 0x0123456789abcdef, math.MaxUint64}
	for shift := range 64 {
		out = append(out, 1<<shift-1, 1<<shift, 1<<shift+1, 3<<shift, 17<<shift)
	}
	return out
}

func TestCount(t *testing.T) {
	for _, size := range sizes() {
		for level := range topLevel + 1 {
			if got, want := tiles.Count(size, level), countOf(size, level); got != want {
				t.Errorf("Count(%d, %d): %d, want %d", size, level, got, want)
			}
		}
	}
}

func TestNeed(t *testing.T) {
	for _, size := range sizes() {
		for level := range topLevel + 1 {
			whole, left := tiles.Need(size, level)
			n := countOf(size, level)
			if left < 0 || left >= width || whole != n/width || uint64(left) != n-whole*width {
				t.Errorf("Need(%d, %d): %d, %d of %d", size, level, whole, left, n)
			}
		}
	}
}

func TestCountOfNoLevel(t *testing.T) {
	for _, level := range []int{-1, -2, -5, 6, 7, 8, 15, 16, 63, 64, 256, 257, 1 << 32, 1 << 62, math.MaxInt, math.MinInt, math.MinInt + 1} {
		for _, size := range sizes() {
			if got := tiles.Count(size, level); got != 0 {
				t.Errorf("Count(%d, %d): %d", size, level, got)
			}
			if whole, left := tiles.Need(size, level); whole != 0 || left != 0 {
				t.Errorf("Need(%d, %d): %d, %d", size, level, whole, left)
			}
		}
	}
}

// P16.3: Put

func TestPut(t *testing.T) {
	for n := 1; n <= width; n++ {
		l := hashesOf(100, 100+n)
		got, e := tiles.Put(l)
		if e != api.OK || string(got) != bytesOf(l) {
			t.Errorf("Put of %d: %x, error %d", n, got, e)
		}
		if !slices.Equal(l, hashesOf(100, 100+n)) {
			t.Errorf("Put of %d changes them", n)
		}
	}
	got, e := tiles.Put(make([]api.Digest, 2))
	if e != api.OK || string(got) != strings.Repeat("\x00", 64) {
		t.Errorf("Put of noughts: %x, error %d", got, e)
	}
}

func TestPutOfTooFewAndTooMany(t *testing.T) {
	for _, l := range [][]api.Digest{nil, {}, hashesOf(0, 17), hashesOf(0, 18), hashesOf(0, 32), make([]api.Digest, 256+1), make([]api.Digest, 1<<16)} {
		if got, e := tiles.Put(l); e != api.ErrArg || len(got) != 0 {
			t.Errorf("Put of %d: %x, error %d, want ErrArg alone", len(l), got, e)
		}
	}
}

func TestPutTellsNewMemory(t *testing.T) {
	l := hashesOf(0, 3)
	got, _ := tiles.Put(l)
	spoil(got)
	if !slices.Equal(l, hashesOf(0, 3)) {
		t.Error("the hashes are others now")
	}
	got, _ = tiles.Put(l)
	spoilHashes(l)
	if string(got) != bytesOf(hashesOf(0, 3)) {
		t.Error("the bytes are others now")
	}
}

// P16.3: Take

func TestTake(t *testing.T) {
	for n := 1; n <= width; n++ {
		b := []byte(bytesOf(hashesOf(100, 100+n)))
		got, e := tiles.Take(b)
		if e != api.OK || !slices.Equal(got, hashesOf(100, 100+n)) {
			t.Errorf("Take of %d: %x, error %d", n, got, e)
		}
		if string(b) != bytesOf(hashesOf(100, 100+n)) {
			t.Errorf("Take of %d changes them", n)
		}
	}
}

// Each length that is not one of 1 to 16 hashes.
func TestTakeOfNoTile(t *testing.T) {
	whole := []byte(bytesOf(hashesOf(0, 40)))
	for n := range len(whole) + 1 {
		is := n > 0 && n <= 512 && n%32 == 0
		got, e := tiles.Take(whole[:n])
		if is != (e == api.OK) || !is && (e != api.ErrForm || len(got) != 0) {
			t.Errorf("Take of %d bytes: %d hashes, error %d", n, len(got), e)
		}
	}
	for _, b := range [][]byte{nil, {}, make([]byte, 1<<16), make([]byte, 1<<16+32), make([]byte, 1<<20+1)} {
		if got, e := tiles.Take(b); e != api.ErrForm || len(got) != 0 {
			t.Errorf("Take of %d bytes: %d hashes, error %d", len(b), len(got), e)
		}
	}
}

func TestTakeTellsNewMemory(t *testing.T) {
	b := []byte(bytesOf(hashesOf(0, 3)))
	got, _ := tiles.Take(b)
	spoilHashes(got)
	if string(b) != bytesOf(hashesOf(0, 3)) {
		t.Error("the bytes are others now")
	}
	got, _ = tiles.Take(b)
	spoil(b)
	if !slices.Equal(got, hashesOf(0, 3)) {
		t.Error("the hashes are others now")
	}
}

func FuzzTake(f *testing.F) {
	for _, n := range []int{0, 1, 16, 17} {
		b := bytesOf(hashesOf(0, n))
		f.Add([]byte(b))
		f.Add([]byte(b + "x"))
	}
	f.Fuzz(func(t *testing.T, b []byte) {
		l, e := tiles.Take(b)
		if is := len(b) > 0 && len(b) <= 512 && len(b)%32 == 0; is != (e == api.OK) {
			t.Fatalf("Take of %d bytes: error %d", len(b), e)
		}
		if e == api.OK && bytesOf(l) != string(b) {
			t.Errorf("Take of %x: %x", b, l)
		}
	})
}

// P16.3: Head

func TestHead(t *testing.T) {
	for _, l := range [][]api.Digest{hashesOf(0, 16), hashesOf(16, 32), make([]api.Digest, 16), slices.Repeat(hashesOf(7, 8), 16)} {
		kept := slices.Clone(l)
		got, e := tiles.Head(l)
		if e != api.OK || got != headOf(l) {
			t.Errorf("Head: %x, error %d, want %x", got, e, headOf(l))
		}
		if !slices.Equal(l, kept) {
			t.Error("Head changes its hashes")
		}
	}
}

// Each of the hashes counts, and its place does.
func TestHeadHangsOnEachHash(t *testing.T) {
	seen := map[api.Digest]bool{}
	for i := range width {
		for j := range i + 1 {
			l := hashesOf(0, 16)
			l[i], l[j] = l[j], l[i]
			if i == j {
				l[i][31] ^= 1
			}
			got, e := tiles.Head(l)
			if e != api.OK || got != headOf(l) || seen[got] {
				t.Errorf("Head, %d and %d changed: %x, error %d", i, j, got, e)
			}
			seen[got] = true
		}
	}
}

func TestHeadOfNoWholeTile(t *testing.T) {
	for n := range 70 {
		if n == width {
			continue
		}
		if got, e := tiles.Head(hashesOf(0, n)); e != api.ErrArg || got != (api.Digest{}) {
			t.Errorf("Head of %d: %x, error %d, want ErrArg alone", n, got, e)
		}
	}
	if got, e := tiles.Head(nil); e != api.ErrArg || got != (api.Digest{}) {
		t.Errorf("Head(nil): %x, error %d", got, e)
	}
}

// What follows

// P16.4
func TestNameAndParse(t *testing.T) {
	for _, x := range some() {
		name, _ := tiles.Name(x.level, x.number, x.width)
		level, number, n, e := tiles.Parse(name)
		if e != api.OK || (named{level, number, n}) != x {
			t.Errorf("Parse of the name of %v: %d, %d, %d, error %d", x, level, number, n, e)
		}
		if again, e := tiles.Name(level, number, n); e != api.OK || again != name {
			t.Errorf("Name of what Parse tells of %q: %q, error %d", name, again, e)
		}
	}
}

// P16.4
func TestPutAndTake(t *testing.T) {
	l := lottery(1)
	for range 500 {
		from := l.below(1000)
		hashes := hashesOf(from, from+1+l.below(width))
		b, e := tiles.Put(hashes)
		got, ee := tiles.Take(b)
		if e != api.OK || ee != api.OK || !slices.Equal(got, hashes) {
			t.Errorf("Take of Put of %d: %x, errors %d, %d", len(hashes), got, e, ee)
		}
		if again, e := tiles.Put(got); e != api.OK || string(again) != string(b) {
			t.Errorf("Put of Take of %d: error %d", len(hashes), e)
		}
	}
}

// tree is one in tiles: the hashes of each level.
type tree [topLevel + 1][]api.Digest

// add puts a leaf behind the others, and tells how many hashes it adds on each level.
func (x *tree) add(t *testing.T, leaf api.Digest) [topLevel + 1]int {
	t.Helper()
	var more [topLevel + 1]int
	for level := range x {
		x[level] = append(x[level], leaf)
		more[level]++
		n := len(x[level])
		if n%width != 0 {
			break
		}
		head, e := tiles.Head(x[level][n-width:])
		if e != api.OK {
			t.Fatalf("Head: error %d", e)
		}
		leaf = head
	}
	return more
}

// P16.5: a tree that grows has on each level what Need tells, and one leaf more makes one more of the levels at whose whole tiles it ends.
func TestTreesThatGrow(t *testing.T) {
	var x tree
	for size := range 5000 {
		for level := range x {
			whole, left := tiles.Need(uint64(size), level)
			if got := len(x[level]); got != int(whole)*width+left {
				t.Fatalf("%d leaves, level %d: %d hashes, Need tells %d, %d", size, level, got, whole, left)
			}
		}
		more := x.add(t, hashOf(size))
		leaves := 1
		for level := range x {
			want := 0
			if (size+1)%leaves == 0 {
				want = 1
			}
			got := tiles.Count(uint64(size+1), level) - tiles.Count(uint64(size), level)
			if int(got) != want || more[level] != want {
				t.Fatalf("leaf %d, level %d: %d more, and %d by Count, want %d", size, level, more[level], got, want)
			}
			leaves *= width
		}
	}
}

// P16.5, of trees of any size.
func TestOneLeafMore(t *testing.T) {
	for _, size := range append(sizes(), 1<<20-1, 1<<20-2) {
		leaves := uint64(1)
		for level := range topLevel + 1 {
			if size < math.MaxUint64 {
				more := tiles.Count(size+1, level) - tiles.Count(size, level)
				if is := (size+1)%leaves == 0; is != (more == 1) || !is && more != 0 {
					t.Errorf("a leaf behind %d, level %d: %d more", size, level, more)
				}
			}
			leaves *= width
		}
	}
}

// A tree of as many leaves as there may be has one hash on the highest level, and each tile's number may be.
func TestGreatestTree(t *testing.T) {
	want := mostLeaves
	for level := range topLevel + 1 {
		if got := tiles.Count(mostLeaves, level); got != uint64(want) {
			t.Errorf("level %d: %d", level, got)
		}
		whole, left := tiles.Need(mostLeaves, level)
		if left > 0 {
			whole++
		} else {
			left = width
		}
		if _, e := tiles.Name(level, whole-1, left); e != api.OK {
			t.Errorf("level %d: tile %d: error %d", level, whole-1, e)
		}
		want /= width
	}
}

// The head of a tile of a level above is that of all leaves beneath it.
func TestHeadsOfHeads(t *testing.T) {
	var x tree
	for n := range 256 {
		x.add(t, hashOf(n))
	}
	if len(x[2]) != 1 || x[2][0] != headOf(hashesOf(0, 256)) {
		t.Errorf("256 leaves have the head %x", x[2])
	}
	if len(x[1]) != 16 || x[1][3] != headOf(hashesOf(48, 64)) {
		t.Errorf("256 leaves have the heads %x", x[1])
	}
	if x[0][0] != sha256.Sum256([]byte("0")) {
		t.Errorf("the first leaf is %x", x[0][0])
	}
}
