package store_test

import (
	"fmt"
	"math"
	"slices"
	"strings"
	"testing"

	"escritoire/api"
	"escritoire/files"
	"escritoire/store"
)

// P18.4: Add

// Sizes at and around whole tiles of the first levels, and numbers of entries that fill, or pass, one of these.
var (
	formers = []int{0, 1, 2, 7, 14, 15, 16, 17, 31, 32, 33, 47, 239, 240, 241, 254, 255, 256, 257, 271, 272, 511, 512}
	mores   = []int{1, 2, 3, 9, 14, 15, 16, 17, 18, 31, 32, 33, 240, 241, 256, 257, 300}
)

// Behind an Add the disk has the files that it had, and those of the size behind it, all of which last; and the new tree is told.
func TestAdd(t *testing.T) {
	whole := treeOf(entriesOf(0, 1000))
	for _, former := range formers {
		for _, more := range mores {
			x := whole.first(former + more)
			what := fmt.Sprintf("%d behind %d", more, former)
			d, other := diskOf(t, x.first(former)), diskOf(t, x.first(former))
			s := open(t, d, uint64(former))
			wantError(t, what, s.Add(x.entries[former:]), api.OK)
			do(t, other, changes(x, former)...)
			wantSame(t, what, d, other)
			if s.Size() != uint64(former+more) {
				t.Fatalf("%s: Size is %d", what, s.Size())
			}
			if former < 50 && more < 50 {
				wantTree(t, what, d, x)
				wantTree(t, what+", the former one", d, x.first(former))
			}
		}
	}
}

// The power goes at each step of an Add: what was done ahead of it is done, in the chapter's order, and the size stays.
func TestAddWithoutPower(t *testing.T) {
	whole := treeOf(entriesOf(0, 600))
	for _, p := range [][2]int{{0, 1}, {0, 17}, {1, 1}, {3, 13}, {15, 1}, {15, 2}, {15, 17}, {16, 1}, {16, 16}, {20, 30}, {250, 5}, {250, 6}, {250, 7}, {255, 1}, {240, 17}, {256, 33}, {511, 1}, {500, 50}} {
		former, x := p[0], whole.first(p[0]+p[1])
		all := changes(x, former)
		for n := range len(all) + 1 {
			what := fmt.Sprintf("%d behind %d, the power goes with change %d", p[1], former, n+1)
			d, other := diskOf(t, x.first(former)), diskOf(t, x.first(former))
			s := open(t, d, uint64(former))
			d.Fuse(n + 1)
			e := s.Add(x.entries[former:])
			do(t, other, all[:n]...)
			if n < len(all) {
				wantError(t, what, e, api.ErrOff)
				off(t, other)
			} else {
				wantError(t, what, e, api.OK)
				former = len(x.entries)
			}
			wantSame(t, what, d, other)
			if s.Size() != uint64(former) {
				t.Fatalf("%s: Size is %d", what, s.Size())
			}
		}
	}
}

// Without entries nothing is done, nor read.
func TestAddOfNothing(t *testing.T) {
	for _, size := range []uint64{0, 1, 15, 16, 17, 255, 256, mostLeaves - 1, mostLeaves} {
		d := newDisk(t)
		s := open(t, d, size)
		d.Fuse(1)
		for _, l := range [][]api.Entry{nil, {}} {
			wantError(t, fmt.Sprint("none behind ", size), s.Add(l), api.OK)
		}
		wantFiles(t, "none", d, nil)
		if s.Size() != size || d.Off() {
			t.Errorf("none behind %d: Size is %d, the power is off: %v", size, s.Size(), d.Off())
		}
	}
}

// An entry that may not be, wherever it stands, is told ahead of too many of them, and nothing is done.
func TestAddOfWhatMayNotBe(t *testing.T) {
	x := treeOf(entriesOf(0, 20))
	for what, wrong := range bad() {
		d := diskOf(t, x)
		s := open(t, d, 20)
		for n := 1; n < 40; n += 6 {
			for _, at := range []int{0, n / 2, n - 1} {
				l := entriesOf(20, 20+n)
				l[at] = wrong
				wantError(t, what, s.Add(l), api.ErrArg)
			}
		}
		l := slices.Repeat(entriesOf(0, 1), mostLeaves)
		wantError(t, what+", and too many", s.Add(append(l, wrong)), api.ErrArg)
		wantFiles(t, what, d, filesOf(t, diskOf(t, x)))
		if s.Size() != 20 {
			t.Errorf("%s: Size is %d", what, s.Size())
		}
	}
}

func TestAddOfTooMany(t *testing.T) {
	many := slices.Repeat(entriesOf(0, 1), mostLeaves+1)
	for _, size := range []int{0, 1, 5, mostLeaves - 300, mostLeaves - 17, mostLeaves - 1, mostLeaves} {
		d := newDisk(t)
		s := open(t, d, uint64(size))
		d.Fuse(1)
		wantError(t, fmt.Sprint("all behind ", size), s.Add(many), api.ErrFull)
		wantError(t, fmt.Sprint("one too many behind ", size), s.Add(many[:mostLeaves-size+1]), api.ErrFull)
		wantFiles(t, "too many", d, nil)
		if s.Size() != uint64(size) || d.Off() {
			t.Errorf("too many behind %d: Size is %d, the power is off: %v", size, s.Size(), d.Off())
		}
	}
}

// The last entry that there may be makes the last tile of each level whole, and the one of the highest.
func TestAddOfTheLastOne(t *testing.T) {
	d := newDisk(t)
	write(t, d, bundleName(65535, 15), bundleOf(entriesOf(0, 15)))
	for level, number := range []int{65535, 4095, 255, 15, 0} {
		write(t, d, tileName(level, number, 15), tileOf(hashesOf(100*level, 100*level+15)))
	}
	want := filesOf(t, d)
	s := open(t, d, mostLeaves-1)
	wantOK(t, s.Add(entriesOf(15, 16)))
	head := leafOf(entryOf(15))
	want = append(want, content{bundleName(65535, 16), bundleOf(entriesOf(0, 16)), ""})
	for level, number := range []int{65535, 4095, 255, 15, 0} {
		all := append(hashesOf(100*level, 100*level+15), head)
		want = append(want, content{tileName(level, number, 16), tileOf(all), ""})
		head = rootOf(all)
	}
	want = append(want, content{"t5-000000-01", tileOf([]api.Digest{head}), ""})
	slices.SortFunc(want, func(a, b content) int { return strings.Compare(a.name, b.name) })
	wantFiles(t, "the last one", d, want)
	wantHash(t, "Root", s.Root, 0, mostLeaves, head)
	wantError(t, "another one", s.Add(entriesOf(0, 1)), api.ErrFull)
	if s.Size() != mostLeaves {
		t.Errorf("Size is %d", s.Size())
	}
}

// What the former files say is laid down again, though it is no entry's hash, and no head of what stands beneath.
func TestAddTakesWhatTheFormerFilesSay(t *testing.T) {
	d := diskOf(t, treeOf(entriesOf(0, 255)))
	write(t, d, "b-000015-15", bundleOf(entriesOf(500, 515)))
	write(t, d, "t0-000015-15", tileOf(hashesOf(0, 15)))
	write(t, d, "t1-000000-15", tileOf(hashesOf(20, 35)))
	wantOK(t, open(t, d, 255).Add(entriesOf(255, 256)))
	level0 := append(hashesOf(0, 15), leafOf(entryOf(255)))
	level1 := append(hashesOf(20, 35), rootOf(level0))
	for name, want := range map[string]string{
		"b-000015-16":  bundleOf(append(entriesOf(500, 515), entryOf(255))),
		"t0-000015-16": tileOf(level0),
		"t1-000000-16": tileOf(level1),
		"t2-000000-01": tileOf([]api.Digest{rootOf(level1)}),
	} {
		if b, e := d.Read(name); e != api.OK || string(b) != want {
			t.Errorf("%s: error %d, or other bytes", name, e)
		}
	}
}

// Where a former file can't be read, that is told: its row's files are not written, and those ahead of them are.
func TestAddWithoutAFormerFile(t *testing.T) {
	x := treeOf(entriesOf(0, 600))
	for _, p := range []struct {
		former, more int
		read         []string // in this order
	}{
		{2, 1, []string{"b-000000-02", "t0-000000-02"}},
		{15, 1, []string{"b-000000-15", "t0-000000-15"}},
		{20, 10, []string{"b-000001-04", "t0-000001-04"}},
		{20, 12, []string{"b-000001-04", "t0-000001-04", "t1-000000-01"}},
		{255, 1, []string{"b-000015-15", "t0-000015-15", "t1-000000-15"}},
		{240, 20, []string{"t1-000000-15"}},
		{300, 212, []string{"b-000018-12", "t0-000018-12", "t1-000001-02", "t2-000000-01"}},
	} {
		for _, name := range p.read {
			f := x.first(p.former).files()
			b := f[slices.Index(namesOf(f), name)].lasts
			for what, wrong := range spoilt(b) {
				what = fmt.Sprintf("%d behind %d, %s: %s", p.more, p.former, name, what)
				d := diskOf(t, x.first(p.former))
				wantOK(t, d.Remove(name))
				if !strings.HasSuffix(what, "none") {
					write(t, d, name, wrong)
				}
				other := d.Copy()
				done := changes(x.first(p.former+p.more), p.former)
				done = done[:slices.IndexFunc(done, func(c change) bool { return rowOf(c.name) == rowOf(name) })]
				s := open(t, d, uint64(p.former))
				wantError(t, what, s.Add(x.entries[p.former:p.former+p.more]), api.ErrState)
				do(t, other, done...)
				wantSame(t, what, d, other)
				if s.Size() != uint64(p.former) {
					t.Fatalf("%s: Size is %d", what, s.Size())
				}
			}
		}
		d := diskOf(t, x.first(p.former))
		for _, name := range d.Names() {
			if !slices.Contains(p.read, name) {
				wantOK(t, d.Remove(name))
			}
		}
		wantError(t, fmt.Sprintf("%d behind %d, no other files", p.more, p.former), open(t, d, uint64(p.former)).Add(x.entries[p.former:p.former+p.more]), api.OK)
	}
}

// rowOf is what the names of a row have in common.
func rowOf(name string) string {
	row, _, _ := strings.Cut(name, "-")
	return row
}

// Behind whole files nothing is read, and the disk may have none.
func TestAddBehindWholeFiles(t *testing.T) {
	for _, p := range [][2]int{{16, 5}, {32, 15}, {256, 15}, {256, 255}, {4096, 16}, {65536, 1}} {
		d := newDisk(t)
		wantOK(t, open(t, d, uint64(p[0])).Add(entriesOf(p[0], p[0]+p[1])))
		if len(d.Names()) < 2 {
			t.Errorf("%d behind %d: %q", p[1], p[0], d.Names())
		}
	}
}

// What stands under the new names is no longer there.
func TestAddInThePlaceOfOthers(t *testing.T) {
	x := treeOf(entriesOf(0, 40))
	d := diskOf(t, x.first(20))
	for _, name := range []string{"b-000001-16", "b-000002-08", "t0-000001-16", "t0-000002-08", "t1-000000-02"} {
		wantOK(t, d.Create(name), d.Append(name, []byte(strings.Repeat("x", 5000))), d.Sync(name))
	}
	write(t, d, "b-000003-08", "other")
	want := filesOf(t, d)
	wantOK(t, open(t, d, 20).Add(x.entries[20:]))
	for i, f := range want {
		if j := slices.Index(namesOf(x.files()), f.name); j >= 0 {
			want[i] = x.files()[j]
		}
	}
	wantFiles(t, "others", d, want)
	wantTree(t, "others", d, x)
}

// A full disk tells it, what was done ahead of it is done, and when there is room the same Add is done.
func TestAddOnAFullDisk(t *testing.T) {
	x := treeOf(entriesOf(0, 40))
	all := changes(x, 20)
	for room := 0; ; room += 7 {
		d, other := diskOf(t, x.first(20)), diskOf(t, x.first(20))
		s := open(t, d, 20)
		d.Quota(d.Used() + room)
		e := s.Add(x.entries[20:])
		left := room
		full := slices.IndexFunc(all, func(c change) bool {
			left -= len(c.data)
			return left < 0
		})
		if full < 0 {
			wantError(t, "enough room", e, api.OK)
			wantTree(t, "enough room", d, x)
			break
		}
		wantError(t, fmt.Sprint("room for ", room), e, api.ErrFull)
		do(t, other, all[:full]...)
		wantSame(t, fmt.Sprint("room for ", room), d, other)
		if s.Size() != 20 {
			t.Fatalf("Size is %d", s.Size())
		}
		wantTree(t, "a full disk", d, x.first(20))
		d.Quota(math.MaxInt)
		wantOK(t, s.Add(x.entries[20:]))
		wantTree(t, "room again", d, x)
	}
}

// As many files as there may be.
func TestAddWithAllFiles(t *testing.T) {
	x := treeOf(entriesOf(0, 40))
	for n := range 5 {
		d := diskOf(t, x.first(20))
		s := open(t, d, 20)
		for i := len(d.Names()); i < mostFiles-n; i++ {
			wantOK(t, d.Create(fmt.Sprint("f", i)))
		}
		wantError(t, fmt.Sprint("room for ", n), s.Add(x.entries[20:]), api.ErrFull)
		if len(d.Names()) != mostFiles || s.Size() != 20 {
			t.Fatalf("room for %d: %d files, Size is %d", n, len(d.Names()), s.Size())
		}
		for i := range 5 {
			wantOK(t, d.Remove(fmt.Sprint("f", 4000+i)))
		}
		wantOK(t, s.Add(x.entries[20:]))
		wantTree(t, "room again", d, x)
	}
}

// Other entries may come where an Add told an error.
func TestAddBehindAnError(t *testing.T) {
	x := treeOf(append(entriesOf(0, 20), entriesOf(700, 710)...))
	for n := 1; n <= 15; n++ {
		d := diskOf(t, x.first(20))
		s := open(t, d, 20)
		d.Fuse(n)
		wantError(t, fmt.Sprint("Fuse ", n), s.Add(entriesOf(20, 50)), api.ErrOff)
		d.Crash([]uint16{7})
		wantOK(t, s.Add(x.entries[20:]))
		wantTree(t, fmt.Sprint("Fuse ", n), d, x)
		wantTree(t, fmt.Sprint("Fuse ", n), d, x.first(20))
	}
}

func TestAddKeepsNothing(t *testing.T) {
	l := entriesOf(0, 40)
	kept := copied(l)
	d := newDisk(t)
	s := open(t, d, 0)
	wantOK(t, s.Add(l[:20]), s.Add(l[20:]))
	if !slices.EqualFunc(l, kept, equal) {
		t.Error("the entries are others now")
	}
	for _, x := range l {
		spoilEntry(x)
	}
	wantTree(t, "entries spoilt", d, treeOf(kept))
	wantOK(t, s.Add(kept[:1]))
	wantTree(t, "entries spoilt", d, treeOf(append(kept, kept[0])))
}

// Entries at the ends of what may be, and the same one often.
func TestAddOfOddEntries(t *testing.T) {
	var l []api.Entry
	for range 4 {
		l = append(l, of(0, "\x00"), of(1<<64-1, long(mostBytes)), of(1<<63, long(mostBytes-1), long(1)), of(1<<64-1, long(mostBytes), long(mostBytes), long(mostBytes), long(mostBytes)), of(0, "\x00"))
	}
	d := newDisk(t)
	s := open(t, d, 0)
	for at := 0; at < len(l); at += 5 {
		wantOK(t, s.Add(l[at:at+5]))
		wantTree(t, "odd ones", d, treeOf(l[:at+5]))
	}
}

// P18.5: Clean

// others are names that are nearly the store's: they are none.
var others = []string{
	"b", "t", "b-", "b-000000", "b-000000-", "b-000000-00", "b-000000-17", "b-000000-1", "b-00000-16", "b-0000000-16", "b-000000-016", "b-000000-16.", "b-000000-16-", "b-000000-16.new", "-b-000000-16", "b000000-16", "b0-000000-16", "c-000000-16",
	"t-000000-16", "t0-000000-00", "t0-000000-17", "t0-000000-1", "t6-000000-16", "t9-000000-16", "t0-00000-16", "t0-0000000-16", "t00-000000-16", "t0-000000-16.", "t0-000000-16.new", "t0000000-16", "u0-000000-16", "xt0-000000-16",
	"head", "head.new", "wal-00000001", "a", "z", "-", ".",
}

func TestClean(t *testing.T) {
	whole := treeOf(entriesOf(0, 300))
	for _, size := range []int{0, 1, 5, 16, 20, 33, 255, 256, 300} {
		x := whole.first(size)
		d := diskOf(t, x)
		for _, name := range others {
			write(t, d, name, "other")
		}
		kept := filesOf(t, d)
		for _, name := range []string{"b-000000-03", "b-000001-02", "b-000019-16", "b-999999-16", "t0-000000-03", "t0-000001-02", "t1-000000-03", "t1-000007-07", "t2-000000-04", "t3-000000-01", "t4-123456-10", "t5-000000-01", "t5-999999-16"} {
			write(t, d, name, "what stands there does not matter")
		}
		s := open(t, d, uint64(size))
		wantOK(t, s.Clean())
		wantFiles(t, fmt.Sprint("Clean of ", size), d, kept)
		d.Fuse(1)
		wantOK(t, s.Clean())
		wantFiles(t, fmt.Sprint("Clean of ", size, " again"), d, kept)
		d.Fuse(0)
		wantTree(t, "Clean", d, x)
		if s.Size() != uint64(size) {
			t.Errorf("Size is %d, want %d", s.Size(), size)
		}
	}
}

// Files that are wanted, and are not there, or have other bytes, are left as they are.
func TestCleanReadsNothing(t *testing.T) {
	d := newDisk(t)
	write(t, d, "b-000000-16", "no bundle")
	write(t, d, "t0-000001-04", "no tile")
	kept := filesOf(t, d)
	write(t, d, "t0-000001-03", "not wanted")
	wantOK(t, open(t, d, 20).Clean())
	wantFiles(t, "Clean", d, kept)
}

// Behind Adds the files of the former sizes go, those of a size that is less, too.
func TestCleanBehindAdds(t *testing.T) {
	x := treeOf(entriesOf(0, 60))
	d := newDisk(t)
	s := open(t, d, 0)
	for at := 0; at < 60; at += 5 {
		wantOK(t, s.Add(x.entries[at:at+5]))
	}
	former := open(t, d.Copy(), 23)
	wantOK(t, s.Clean())
	wantFiles(t, "Clean", d, filesOf(t, diskOf(t, x)))
	wantOK(t, former.Add(x.entries[23:23]))
	wantError(t, "the former size, which no Add made", former.Add(x.entries[23:24]), api.ErrState)
}

// All files of the greatest tree that a disk holds.
func TestCleanOfMany(t *testing.T) {
	d := newDisk(t)
	for i := range mostFiles {
		wantOK(t, d.Create(bundleName(i, 1+i%16)))
	}
	wantOK(t, open(t, d, mostLeaves).Clean())
	if n := len(d.Names()); n != mostFiles/16 {
		t.Errorf("%d files are left", n)
	}
}

// The lesser names go first, wherever the power goes.
func TestCleanWithoutPower(t *testing.T) {
	x := treeOf(entriesOf(0, 20))
	gone := []string{"b-000000-01", "b-000001-03", "b-000001-05", "t0-000000-15", "t0-000001-05", "t1-000000-02", "t5-000000-01"}
	for n := range len(gone) + 1 {
		d, other := diskOf(t, x), diskOf(t, x)
		for i := range gone {
			write(t, d, gone[len(gone)-1-i], "x")
		}
		for _, name := range gone[n:] {
			write(t, other, name, "x")
		}
		s := open(t, d, 20)
		d.Fuse(n + 1)
		e := s.Clean()
		if n < len(gone) {
			wantError(t, fmt.Sprint("the power goes with removal ", n), e, api.ErrOff)
			off(t, other)
		} else {
			wantError(t, "the power does not go", e, api.OK)
		}
		wantSame(t, "Clean", d, other)
		d.Crash(nil)
		wantOK(t, s.Clean())
		wantFiles(t, "Clean again", d, filesOf(t, diskOf(t, x)))
	}
}

// P18.2 to P18.5: rows of calls

// Rows of calls do to a disk, and tell, what the chapter's words say, step by step, whatever stands on it.
func TestRows(t *testing.T) {
	for seed := range 300 {
		l := lottery(seed)
		var steps []byte
		for range 2 * (1 + l.below(60)) {
			steps = append(steps, byte(l.below(256)))
		}
		doRow(t, steps)
	}
}

func FuzzRows(f *testing.F) {
	for _, x := range []string{"", "\x00\x11\x00\x0f\x05\x01", "\x00\x28\x01\x05\x02\x03\x06\x00\x00\x09"} {
		f.Add([]byte(x))
	}
	f.Fuzz(func(t *testing.T, steps []byte) { doRow(t, steps[:min(len(steps), 100)]) })
}

// doRow does a row of calls, two bytes each, on a store, and on the words' own one, each on a disk of its own.
func doRow(t *testing.T, steps []byte) {
	t.Helper()
	d, other := newDisk(t), newDisk(t)
	s, r := open(t, d, 0), &byWords{disk: other}
	for i := 0; i+1 < len(steps); i += 2 {
		what, n := fmt.Sprintf("step %d of %v", i, steps), int(steps[i+1])
		switch steps[i] % 12 {
		case 0, 1, 2, 3:
			l := entriesOf(n, n+n%40)
			if n == 77 {
				l = append(l, of(1))
			}
			wantError(t, what+": Add", s.Add(l), r.add(l))
		case 4:
			wantError(t, what+": Clean", s.Clean(), r.clean())
		case 5:
			d.Fuse(n % 40)
			other.Fuse(n % 40)
		case 6:
			d.Quota(d.Used() + 50*n)
			other.Quota(other.Used() + 50*n)
		case 7, 8:
			d.Crash([]uint16{uint16(3 * n)})
			other.Crash([]uint16{uint16(3 * n)})
		case 9:
			spoilFile(d, n)
			spoilFile(other, n)
		default:
			if !d.Off() {
				r.size = max(0, r.size-n%20)
				s = open(t, d, uint64(r.size))
			}
		}
		wantSame(t, what, d, other)
		wantAsTold(t, what, s, r, n)
	}
}

// spoilFile changes one of a disk's files, or takes it away.
func spoilFile(d *files.Disk, n int) {
	names := d.Names()
	if len(names) == 0 {
		return
	}
	name := names[n%len(names)]
	switch b, _ := d.Read(name); {
	case n%5 == 0 || len(b) == 0:
		d.Remove(name)
	case n%5 == 1:
		d.Append(name, []byte{1})
	default:
		d.Create(name)
		b[n%len(b)] ^= 1
		d.Append(name, b)
	}
	d.Sync(name)
}

// wantAsTold wants a store to tell what the chapter's words do, of some nodes, entries and parts.
func wantAsTold(t *testing.T, what string, s *store.Store, r *byWords, n int) {
	t.Helper()
	if s.Size() != uint64(r.size) {
		t.Fatalf("%s: Size is %d, want %d", what, s.Size(), r.size)
	}
	for i := range 4 {
		at := uint64(n + 61*i)
		node := nodeAt(int(at)%10, at>>(int(at)%10))
		got, e := s.Node(node)
		if want, ee := r.node(node); got != want || e != ee {
			t.Fatalf("%s: Node(%v): %x, error %d, want %x, error %d", what, node, got, e, want, ee)
		}
		x, e := s.Entry(at)
		if want, ee := r.entry(at); !equal(x, want) || e != ee {
			t.Fatalf("%s: Entry(%d): %v, error %d, want %v, error %d", what, at, x, e, want, ee)
		}
		from := at &^ (1<<(n%9) - 1)
		got, e = s.Root(from, from+at%37)
		if want, ee := r.root(from, from+at%37); got != want || e != ee {
			t.Fatalf("%s: Root(%d, %d): %x, error %d, want %x, error %d", what, from, from+at%37, got, e, want, ee)
		}
	}
	got, e := s.Root(0, uint64(r.size))
	if want, ee := r.root(0, uint64(r.size)); got != want || e != ee {
		t.Fatalf("%s: Root(0, %d): %x, error %d, want %x, error %d", what, r.size, got, e, want, ee)
	}
}
