package files_test

import (
	"bytes"
	"math"
	"slices"
	"strconv"
	"strings"
	"testing"
	"unsafe"

	"escritoire/api"
	"escritoire/files"
)

// What each promise is held against are limits of the tests' own, which are the given ones.
func TestLimits(t *testing.T) {
	if api.MaxName != longestName || api.MaxFiles != mostFiles {
		t.Fatalf("names of %d bytes, %d files", api.MaxName, api.MaxFiles)
	}
}

// The chapter's examples, as they stand there.
func TestExamples(t *testing.T) {
	d := newDisk(t, 5)
	wantOK(t, d.Create("a"), d.Append("a", []byte("abc")), d.Sync("a"), d.Append("a", []byte("de")))
	wantError(t, "Append above the quota", d.Append("a", []byte("f")), api.ErrFull)
	d.Crash([]uint16{1})
	wantFiles(t, "Crash(1)", d, content{"a", "abcd", ""})
	wantError(t, "Rename", d.Rename("a", "b"), api.OK)
	b, e := d.Read("a")
	if e != api.ErrNone || len(b) != 0 {
		t.Errorf("Read of a file that has another name: %q, error %d", b, e)
	}
	wantFiles(t, "Rename", d, content{"b", "abcd", ""})
	wantError(t, `Create("A")`, d.Create("A"), api.ErrArg)
	d.Fuse(2)
	wantError(t, "Create, Fuse(2)", d.Create("c"), api.OK)
	wantError(t, "another Create, Fuse(2)", d.Create("d"), api.ErrOff)
	if !d.Off() {
		t.Error("the power is on")
	}
}

// P13.1: New

func TestNew(t *testing.T) {
	for _, quota := range []int{0, 1, 5, math.MaxInt32, math.MaxInt} {
		wantModel(t, "New", newDisk(t, quota), &model{quota: quota})
	}
}

func TestNewOfQuotasBelowNone(t *testing.T) {
	for _, quota := range []int{-1, -2, -1 << 31, math.MinInt + 1, math.MinInt} {
		if d, e := files.New(quota); e != api.ErrArg || d != nil {
			t.Errorf("New(%d): %v, error %d, want ErrArg alone", quota, d, e)
		}
	}
}

func TestNewHasNoFuse(t *testing.T) {
	d := newDisk(t, 0)
	for range 70000 {
		wantError(t, "Create", d.Create("a"), api.OK)
	}
}

func TestDisksAreApart(t *testing.T) {
	one, two := newDisk(t, 9), newDisk(t, 9)
	write(t, one, "a", "abc", "d")
	one.Fuse(1)
	wantFiles(t, "another New", two)
	wantOK(t, two.Create("b"))
	wantFiles(t, "the first one", one, content{"a", "abc", "d"})
}

// P13.1: Quota

// The quota that New is given, and the one that Quota sets, are kept alike: up to it all is taken, and no byte more.
func TestQuota(t *testing.T) {
	for _, quota := range []int{0, 1, 2, 7, 100} {
		set := newDisk(t, 50)
		set.Quota(quota)
		for what, d := range map[string]*files.Disk{"New": newDisk(t, quota), "Quota": set} {
			wantOK(t, d.Create("a"), d.Create("b"))
			for n := range quota {
				name := []string{"a", "b"}[n%2]
				wantError(t, what+": Append of too many", d.Append(name, make([]byte, quota-n+1)), api.ErrFull)
				wantError(t, what+": Append of one", d.Append(name, []byte{1}), api.OK)
			}
			for _, name := range []string{"a", "b"} {
				wantError(t, what+": Append of one too many", d.Append(name, []byte{1}), api.ErrFull)
				wantError(t, what+": Append of none", d.Append(name, nil), api.OK)
			}
			if d.Used() != quota {
				t.Errorf("%s: Used is %d, want %d", what, d.Used(), quota)
			}
		}
	}
}

func TestQuotaBelowWhatIsThere(t *testing.T) {
	for _, quota := range []int{5, 4, 1, 0, -1, -5, -1000, math.MinInt + 3, math.MinInt} {
		d := newDisk(t, 10)
		write(t, d, "a", "abc", "")
		write(t, d, "b", "d", "ef")
		d.Quota(quota)
		all := []content{{"a", "abc", ""}, {"b", "d", "ef"}}
		wantModel(t, "Quota", d, &model{files: all})
		for _, n := range []int{1, 2, 6, 10, 100} {
			wantError(t, "Append", d.Append("a", make([]byte, n)), api.ErrFull)
		}
		wantOK(t, d.Append("a", nil), d.Append("b", []byte{}), d.Sync("a"), d.Create("c"), d.Rename("c", "d"), d.Remove("d"))
		wantModel(t, "calls above the quota", d, &model{files: all})
	}
}

func TestQuotaBelowNoneIsNone(t *testing.T) {
	for _, quota := range []int{0, -1, math.MinInt} {
		d := newDisk(t, 10)
		d.Quota(quota)
		wantOK(t, d.Create("a"), d.Append("a", nil))
		wantError(t, "Append", d.Append("a", []byte{1}), api.ErrFull)
		d.Quota(1)
		wantError(t, "Append, Quota(1)", d.Append("a", []byte{1}), api.OK)
	}
}

// What goes, in whatever way, is room again; what only has another name is none.
func TestRoom(t *testing.T) {
	for what, x := range map[string]struct {
		free func(d *files.Disk) api.Errno
		room int
	}{
		"Remove":              {func(d *files.Disk) api.Errno { return d.Remove("a") }, 5},
		"Create anew":         {func(d *files.Disk) api.Errno { return d.Create("a") }, 5},
		"Rename over it":      {func(d *files.Disk) api.Errno { return d.Rename("b", "a") }, 5},
		"Rename over another": {func(d *files.Disk) api.Errno { return d.Rename("a", "b") }, 2},
		"Rename":              {func(d *files.Disk) api.Errno { return d.Rename("a", "d") }, 0},
		"Rename to the same":  {func(d *files.Disk) api.Errno { return d.Rename("a", "a") }, 0},
		"Sync":                {func(d *files.Disk) api.Errno { return d.Sync("a") }, 0},
		"Crash":               {func(d *files.Disk) api.Errno { d.Crash(nil); return api.OK }, 3},
		"Crash that keeps":    {func(d *files.Disk) api.Errno { d.Crash([]uint16{1, 1}); return api.OK }, 1},
		"Crash that keeps all": {func(d *files.Disk) api.Errno {
			d.Crash([]uint16{2, 1})
			return api.OK
		}, 0},
	} {
		d := newDisk(t, 7)
		write(t, d, "a", "abc", "de")
		write(t, d, "b", "f", "g")
		wantOK(t, x.free(d))
		if got := d.Used(); got != 7-x.room {
			t.Errorf("%s: Used is %d, want %d", what, got, 7-x.room)
		}
		wantOK(t, d.Create("c"))
		wantError(t, what+", one byte too many", d.Append("c", make([]byte, x.room+1)), api.ErrFull)
		wantError(t, what+", all room", d.Append("c", make([]byte, x.room)), api.OK)
	}
}

// P13.1: Fuse, Off

// A fuse of n lets n - 1 changes through; with the next one the power goes, and it is not done.
func TestFuseOfEachChange(t *testing.T) {
	for what, change := range changes() {
		d, _ := fuseDisk(t)
		wantError(t, what+" without a fuse", change(d), api.OK)
		for n := 1; n <= 4; n++ {
			d, m := fuseDisk(t)
			d.Fuse(n)
			for range n - 1 {
				wantOK(t, d.Sync("b"))
			}
			if d.Off() {
				t.Fatalf("%s: the power is off, with a fuse left", what)
			}
			wantError(t, what+" that the fuse ends", change(d), api.ErrOff)
			m.off = true
			wantModel(t, what+" that the fuse ends", d, m)
			wantError(t, what+", the power off", change(d), api.ErrOff)
			wantModel(t, what+", the power off", d, m)
		}
	}
}

// Each change counts one.
func TestFuseCounts(t *testing.T) {
	for what, change := range changes() {
		d, _ := fuseDisk(t)
		d.Fuse(3)
		wantError(t, what, change(d), api.OK)
		wantError(t, what+", a second one", d.Create("x"), api.OK)
		wantError(t, what+", a third one", d.Create("y"), api.ErrOff)
	}
}

// What tells an error, or changes nothing, counts nothing.
func TestFuseCountsNothingElse(t *testing.T) {
	d, m := fuseDisk(t)
	d.Fuse(1)
	for range 5 {
		wantError(t, "Create", d.Create("A"), api.ErrArg)
		wantError(t, "Append", d.Append("", nil), api.ErrArg)
		wantError(t, "Append", d.Append("c", nil), api.ErrNone)
		wantError(t, "Append", d.Append("a", make([]byte, 1000)), api.ErrFull)
		wantError(t, "Sync", d.Sync("A"), api.ErrArg)
		wantError(t, "Sync", d.Sync("c"), api.ErrNone)
		wantError(t, "Rename", d.Rename("A", "a"), api.ErrArg)
		wantError(t, "Rename", d.Rename("a", "A"), api.ErrArg)
		wantError(t, "Rename", d.Rename("c", "a"), api.ErrNone)
		wantError(t, "Rename", d.Rename("c", "c"), api.ErrNone)
		wantError(t, "Remove", d.Remove("A"), api.ErrArg)
		wantError(t, "Remove", d.Remove("c"), api.ErrNone)
		d.Read("a")
		d.Loose("a")
		d.Names()
		d.Used()
		d.Quota(100)
		d.Off()
		wantError(t, "Create of a copy", d.Copy().Create("x"), api.ErrOff)
	}
	wantError(t, "Create", d.Create("c"), api.ErrOff)
	m.off = true
	wantModel(t, "Create", d, m)
}

func TestFuseOfFullDiskCountsNothing(t *testing.T) {
	d := fullOfFiles(t)
	d.Fuse(2)
	for range 5 {
		wantError(t, "Create", d.Create("a"), api.ErrFull)
	}
	wantError(t, "Create of what there is", d.Create("f-0"), api.OK)
	wantError(t, "Create", d.Create("a"), api.ErrFull)
	wantError(t, "Create of what there is", d.Create("f-0"), api.ErrOff)
}

func TestFuseInThePlaceOfTheFormer(t *testing.T) {
	for former := -1; former <= 5; former++ {
		for _, n := range []int{1, 2, 7} {
			d := bigDisk(t)
			d.Fuse(former)
			d.Fuse(n)
			for range n - 1 {
				wantError(t, "Create", d.Create("a"), api.OK)
			}
			wantError(t, "Create that the fuse ends", d.Create("a"), api.ErrOff)
		}
		for _, none := range []int{0, -1, -1000, math.MinInt} {
			d := bigDisk(t)
			d.Fuse(former)
			d.Fuse(none)
			for range 20 {
				wantError(t, "Create without a fuse", d.Create("a"), api.OK)
			}
		}
	}
	d := bigDisk(t)
	d.Fuse(math.MaxInt)
	wantOK(t, d.Create("a"), d.Create("b"))
}

// A fuse that is set while the power is off does not put it on, and is gone behind a crash.
func TestFuseWhileOff(t *testing.T) {
	for _, n := range []int{-1, 0, 1, 2, 5} {
		d, m := fuseDisk(t)
		d.Fuse(1)
		wantError(t, "Create", d.Create("c"), api.ErrOff)
		d.Fuse(n)
		m.off = true
		for range 7 {
			wantError(t, "Create, the power off", d.Create("c"), api.ErrOff)
		}
		wantModel(t, "Fuse, the power off", d, m)
		d.Crash(nil)
		m.crash(nil)
		wantModel(t, "Crash", d, m)
		for range 7 {
			wantError(t, "Create behind a crash", d.Create("c"), api.OK)
		}
	}
}

// The errors, in their order

// off puts the power off.
func off(t *testing.T, d *files.Disk) {
	t.Helper()
	d.Fuse(1)
	wantError(t, "a call that the fuse ends", d.Create("a"), api.ErrOff)
}

// wantAll wants each call that is handed a name to tell that error, and nothing else.
func wantAll(t *testing.T, what string, d *files.Disk, name string, want api.Errno) {
	t.Helper()
	wantError(t, what+": Create", d.Create(name), want)
	wantRest(t, what, d, name, want)
}

// wantRest is wantAll without Create, to which there need not be such a file.
func wantRest(t *testing.T, what string, d *files.Disk, name string, want api.Errno) {
	t.Helper()
	for _, b := range [][]byte{nil, {}, {1}, make([]byte, 100)} {
		wantError(t, what+": Append", d.Append(name, b), want)
	}
	wantError(t, what+": Sync", d.Sync(name), want)
	wantError(t, what+": Rename", d.Rename(name, "b"), want)
	wantError(t, what+": Rename to the same", d.Rename(name, name), want)
	wantError(t, what+": Remove", d.Remove(name), want)
	b, e := d.Read(name)
	if wantError(t, what+": Read", e, want); len(b) != 0 {
		t.Errorf("%s: Read tells bytes", what)
	}
	n, e := d.Loose(name)
	if wantError(t, what+": Loose", e, want); n != 0 {
		t.Errorf("%s: Loose tells a number", what)
	}
}

func TestErrNilGoesAhead(t *testing.T) {
	for what, d := range noDisks() {
		for _, name := range []string{"a", "", "A"} {
			wantAll(t, what, d, name, api.ErrNil)
		}
		wantError(t, "Rename to what may not be", d.Rename("a", ""), api.ErrNil)
	}
}

func TestErrOffGoesAheadOfTheOthers(t *testing.T) {
	d, m := fuseDisk(t)
	d.Quota(0)
	off(t, d)
	m.off = true
	for _, name := range []string{"a", "b", "none", "", "A"} {
		wantAll(t, "the power off", d, name, api.ErrOff)
	}
	wantError(t, "Rename to what may not be", d.Rename("a", ""), api.ErrOff)
	wantModel(t, "the power off", d, m)
	full := fullOfFiles(t)
	full.Fuse(1)
	wantError(t, "Remove", full.Remove("f-0"), api.ErrOff)
	wantError(t, "Create, the power off", full.Create("a"), api.ErrOff)
}

func TestErrArgGoesAheadOfTheOthers(t *testing.T) {
	d, m := fuseDisk(t)
	m.quota = 0
	d.Quota(0)
	for _, name := range noNames() {
		wantAll(t, strconv.Quote(name), d, name, api.ErrArg)
		for _, from := range []string{"a", "none", name} {
			wantError(t, "Rename to "+strconv.Quote(name), d.Rename(from, name), api.ErrArg)
		}
	}
	wantModel(t, "names that may not be", d, m)
	wantError(t, "Create of a full disk", fullOfFiles(t).Create("A"), api.ErrArg)
}

func TestErrNoneGoesAheadOfFull(t *testing.T) {
	d, m := fuseDisk(t)
	for _, quota := range []int{100, 0} {
		m.quota = quota
		d.Quota(quota)
		for _, name := range []string{"none", "c", "aa", "a.", ".a", "-"} {
			wantRest(t, name, d, name, api.ErrNone)
		}
		wantModel(t, "files that there are not", d, m)
	}
}

// P13.2

func TestCreate(t *testing.T) {
	d := newDisk(t, 0)
	var want []content
	for _, name := range names() {
		wantError(t, "Create of "+name, d.Create(name), api.OK)
		want = append(want, content{name: name})
	}
	slices.SortFunc(want, func(a, b content) int { return strings.Compare(a.name, b.name) })
	wantFiles(t, "Create", d, want...)
	d.Crash(nil)
	wantFiles(t, "Create, and a crash", d, want...)
}

// What a file had is gone at once, whether it lasted or not, and no crash brings it back.
func TestCreateAnew(t *testing.T) {
	for _, x := range []content{{"a", "", ""}, {"a", "abc", ""}, {"a", "", "de"}, {"a", "abc", "de"}} {
		d := newDisk(t, 10)
		write(t, d, "b", "f", "g")
		write(t, d, "a", x.lasts, x.loose)
		wantError(t, "Create anew", d.Create("a"), api.OK)
		wantModel(t, "Create anew", d, &model{files: []content{{"a", "", ""}, {"b", "f", "g"}}})
		wantOK(t, d.Append("a", []byte("z")))
		wantModel(t, "Append behind Create anew", d, &model{files: []content{{"a", "", "z"}, {"b", "f", "g"}}})
		d.Crash([]uint16{1, 1})
		wantFiles(t, "Create anew, and a crash", d, content{"a", "z", ""}, content{"b", "fg", ""})
	}
}

// fullOfFiles is a disk that has as many files as there may be, f-0 and those behind it.
func fullOfFiles(t *testing.T) *files.Disk {
	t.Helper()
	d := newDisk(t, 10)
	for i := range mostFiles {
		wantError(t, "Create", d.Create("f-"+strconv.Itoa(i)), api.OK)
	}
	return d
}

func TestCreateOfTooManyFiles(t *testing.T) {
	d := fullOfFiles(t)
	wantFull := func(what string) {
		t.Helper()
		wantError(t, what, d.Create("a"), api.ErrFull)
		if n := len(d.Names()); n != mostFiles || d.Used() != 0 {
			t.Fatalf("%s: %d files, %d bytes", what, n, d.Used())
		}
		if _, e := d.Read("a"); e != api.ErrNone {
			t.Fatalf("%s: Read tells error %d", what, e)
		}
	}
	wantFull("Create")
	wantOK(t, d.Append("f-7", []byte("abc")), d.Create("f-7"), d.Create("f-0"), d.Create("f-4095"))
	wantFull("Create, behind those of what there is")
	wantOK(t, d.Rename("f-7", "b"))
	wantFull("Create, behind a Rename")
	d.Crash(nil)
	wantFull("Create, behind a crash")
	d = d.Copy()
	wantFull("Create of a copy")
	wantOK(t, d.Remove("b"), d.Create("a"))
	wantError(t, "one more", d.Create("b"), api.ErrFull)
	wantOK(t, d.Rename("a", "f-9"), d.Create("b"))
	wantFull("Create, behind a Rename over another one")
}

func TestAppend(t *testing.T) {
	d := bigDisk(t)
	wantOK(t, d.Create("a"), d.Create("b"))
	want := ""
	for n := range 300 {
		part := strings.Repeat(string([]byte{byte(n)}), n%7)
		wantError(t, "Append", d.Append("a", []byte(part)), api.OK)
		want += part
		wantFiles(t, "Append", d, content{"a", "", want}, content{"b", "", ""})
	}
	wantOK(t, d.Sync("a"), d.Append("a", []byte("xyz")), d.Append("a", nil), d.Append("a", []byte{}))
	wantModel(t, "Append behind Sync", d, &model{files: []content{{"a", want, "xyz"}, {"b", "", ""}}})
}

// All of it or nothing: of bytes for which there is no room, none is appended.
func TestAppendAboveTheQuota(t *testing.T) {
	for lasts := range 4 {
		for loose := range 4 {
			for n := range 12 {
				d := newDisk(t, 8)
				x := content{"a", "abcd"[:lasts], "efgh"[:loose]}
				write(t, d, x.name, x.lasts, x.loose)
				write(t, d, "b", "z", "")
				e := d.Append("a", []byte("0123456789ab")[:n])
				if lasts+loose+1+n <= 8 {
					wantError(t, "Append", e, api.OK)
					x.loose += "0123456789ab"[:n]
				} else {
					wantError(t, "Append above the quota", e, api.ErrFull)
				}
				wantModel(t, "Append", d, &model{files: []content{x, {"b", "z", ""}}})
			}
		}
	}
}

func TestSync(t *testing.T) {
	d := newDisk(t, 20)
	write(t, d, "a", "abc", "de")
	write(t, d, "b", "f", "g")
	wantOK(t, d.Sync("a"))
	want := []content{{"a", "abcde", ""}, {"b", "f", "g"}}
	wantModel(t, "Sync", d, &model{files: want})
	wantOK(t, d.Sync("a"))
	wantModel(t, "Sync again", d, &model{files: want})
	wantOK(t, d.Create("c"), d.Sync("c"))
	wantModel(t, "Sync of no bytes", d, &model{files: append(want, content{"c", "", ""})})
}

// P13.3

func TestRename(t *testing.T) {
	for _, x := range []content{{"a", "", ""}, {"a", "abc", ""}, {"a", "", "de"}, {"a", "abc", "de"}} {
		for _, over := range []content{{"b", "", ""}, {"b", "fg", ""}, {"b", "", "hij"}, {"b", "fg", "hij"}} {
			d := newDisk(t, 100)
			write(t, d, x.name, x.lasts, x.loose)
			wantError(t, "Rename", d.Rename("a", "c"), api.OK)
			wantModel(t, "Rename", d, &model{files: []content{{"c", x.lasts, x.loose}}})
			write(t, d, over.name, over.lasts, over.loose)
			wantError(t, "Rename over another", d.Rename("c", "b"), api.OK)
			wantModel(t, "Rename over another", d, &model{files: []content{{"b", x.lasts, x.loose}}})
			for _, name := range []string{"a", "c"} {
				wantRest(t, "a former name", d, name, api.ErrNone)
			}
			wantOK(t, d.Append("b", []byte("!")))
			wantModel(t, "Append behind Rename", d, &model{files: []content{{"b", x.lasts, x.loose + "!"}}})
		}
	}
}

func TestRenameToTheSame(t *testing.T) {
	for _, x := range []content{{"a", "", ""}, {"a", "abc", ""}, {"a", "", "de"}, {"a", "abc", "de"}} {
		d := newDisk(t, 100)
		write(t, d, x.name, x.lasts, x.loose)
		write(t, d, "b", "f", "g")
		wantError(t, "Rename", d.Rename("a", "a"), api.OK)
		wantModel(t, "Rename to the same", d, &model{files: []content{x, {"b", "f", "g"}}})
	}
}

func TestRenameToEachName(t *testing.T) {
	d := newDisk(t, 100)
	write(t, d, "wal-1", "abc", "de")
	at := "wal-1"
	for _, name := range names() {
		wantError(t, "Rename to "+name, d.Rename(at, name), api.OK)
		wantFiles(t, "Rename to "+name, d, content{name, "abc", "de"})
		at = name
	}
}

func TestRemove(t *testing.T) {
	d := newDisk(t, 100)
	write(t, d, "a", "abc", "de")
	write(t, d, "b", "f", "g")
	wantError(t, "Remove", d.Remove("a"), api.OK)
	wantModel(t, "Remove", d, &model{files: []content{{"b", "f", "g"}}})
	wantRest(t, "a removed one", d, "a", api.ErrNone)
	d.Crash([]uint16{1, 1})
	wantFiles(t, "Remove, and a crash", d, content{"b", "fg", ""})
	wantOK(t, d.Create("a"))
	wantFiles(t, "Remove and Create", d, content{"a", "", ""}, content{"b", "fg", ""})
	wantOK(t, d.Remove("a"), d.Remove("b"))
	wantFiles(t, "Remove of all", d)
}

// P13.4

// Names rise byte by byte, whatever the order in which they came.
func TestNamesRise(t *testing.T) {
	want := []string{"-", "--", "-a", ".", ".-", "..", "0", "00", "01", "1", "10", "9", "9z", "a", "a-", "a.", "a0", "aa", "aaa", "ab", "b", "z", "z-", "zz"}
	for seed := range 50 {
		l := lottery(seed)
		left := slices.Clone(want)
		d := newDisk(t, 0)
		for len(left) > 0 {
			i := l.below(len(left))
			wantOK(t, d.Create(left[i]))
			left = slices.Delete(left, i, i+1)
		}
		if got := d.Names(); !slices.Equal(got, want) {
			t.Fatalf("Names: %q, want %q", got, want)
		}
	}
}

// What is told of a disk whose power is off is what there is; only what tells an error tells nothing.
func TestNamesAndUsedWhileOff(t *testing.T) {
	d, m := fuseDisk(t)
	off(t, d)
	m.off = true
	wantModel(t, "the power off", d, m)
}

func TestAsksChangeNothing(t *testing.T) {
	d, m := fuseDisk(t)
	for range 3 {
		d.Read("a")
		d.Read("none")
		d.Loose("a")
		d.Loose("none")
		d.Names()
		d.Used()
		d.Off()
		d.Copy()
		wantModel(t, "asked", d, m)
	}
}

// Bytes that are handed in are read alone, and not kept; those that are told are nobody else's.
func TestBytesAreNewMemory(t *testing.T) {
	d := newDisk(t, 100)
	room := []byte("abcXYZ")
	wantOK(t, d.Create("a"), d.Create("b"), d.Append("a", room[:3]), d.Append("b", room[:3]), d.Append("a", []byte("d")))
	if string(room) != "abcXYZ" {
		t.Fatalf("what was handed in has changed: %q", room)
	}
	spoil(room)
	want := []content{{"a", "", "abcd"}, {"b", "", "abc"}}
	wantModel(t, "a change of what was handed in", d, &model{files: want})
	for range 2 {
		b, _ := d.Read("a")
		spoil(b)
		wantOK(t, d.Append("b", nil))
		wantModel(t, "a change of what was told", d, &model{files: want})
	}
	b, _ := d.Read("a")
	wantOK(t, d.Append("a", []byte("efgh")))
	d.Crash([]uint16{1, 0})
	wantOK(t, d.Append("a", []byte("ZZZZZZZZ")))
	if string(b) != "abcd" {
		t.Errorf("what was told has changed: %q", b)
	}
	l := d.Names()
	l[0] = "z"
	if got := d.Names(); !slices.Equal(got, []string{"a", "b"}) {
		t.Errorf("Names, behind a change of what was told: %q", got)
	}
	picks := []uint16{65535, 3, 7}
	d.Crash(picks)
	if !slices.Equal(picks, []uint16{65535, 3, 7}) {
		t.Errorf("picks have changed: %d", picks)
	}
}

// Nor are names: these are cut out of bytes that change.
func TestNamesAreNewMemory(t *testing.T) {
	d := newDisk(t, 100)
	text := func(s string) (string, []byte) {
		b := []byte(s)
		return unsafe.String(&b[0], len(b)), b
	}
	a, aBytes := text("aa")
	b, bBytes := text("bb")
	c, cBytes := text("aa")
	wantOK(t, d.Create(a), d.Append(a, []byte("xy")), d.Create(c), d.Append(c, []byte("z")), d.Create("cc"), d.Rename("cc", b))
	for _, l := range [][]byte{aBytes, bBytes, cBytes} {
		spoil(l)
	}
	wantFiles(t, "a change of the names that were handed in", d, content{"aa", "", "z"}, content{"bb", "", ""})
}

// P13.5: Crash

func TestCrashOfEachPick(t *testing.T) {
	for loose := range 9 {
		for _, pick := range []uint16{0, 1, 2, 3, 4, 5, 6, 7, 8, 9, 10, 17, 255, 256, 32767, 32768, 65534, 65535} {
			d := newDisk(t, 100)
			x := content{"a", "abc", "01234567"[:loose]}
			write(t, d, x.name, x.lasts, x.loose)
			d.Crash([]uint16{pick})
			keep := int(pick) % (loose + 1)
			want := []content{{"a", "abc" + x.loose[:keep], ""}}
			wantModel(t, "Crash", d, &model{files: want})
			d.Crash([]uint16{pick})
			wantModel(t, "a second Crash", d, &model{files: want})
			wantOK(t, d.Append("a", []byte("new")))
			wantModel(t, "Append behind Crash", d, &model{files: []content{{"a", want[0].lasts, "new"}}})
		}
	}
}

// Of more loose bytes than a pick can tell, the pick tells how many.
func TestCrashOfMany(t *testing.T) {
	for _, loose := range []int{65533, 65534, 65535, 65536, 65537, 70000, 131072} {
		for _, pick := range []uint16{0, 1, 65533, 65534, 65535} {
			d := bigDisk(t)
			write(t, d, "a", "abc", strings.Repeat("x", loose))
			d.Crash([]uint16{pick})
			if got, want := d.Used(), 3+int(pick)%(loose+1); got != want {
				t.Errorf("Crash of %d loose bytes by %d: %d are kept, want %d", loose, pick, got, want)
			}
		}
	}
}

// Picks go to the files that have loose bytes alone, by rising names; those that are left have none.
func TestCrashOfMoreFiles(t *testing.T) {
	all := []content{{"-", "", "ab"}, {"a", "cd", ""}, {"b", "e", "fgh"}, {"c", "", ""}, {"d", "ij", "k"}}
	for _, x := range []struct {
		picks []uint16
		want  []string
	}{
		{nil, []string{"", "cd", "e", "", "ij"}},
		{[]uint16{}, []string{"", "cd", "e", "", "ij"}},
		{[]uint16{1}, []string{"a", "cd", "e", "", "ij"}},
		{[]uint16{0, 2}, []string{"", "cd", "efg", "", "ij"}},
		{[]uint16{0, 0, 1}, []string{"", "cd", "e", "", "ijk"}},
		{[]uint16{2, 3, 1}, []string{"ab", "cd", "efgh", "", "ijk"}},
		{[]uint16{3, 4, 2}, []string{"", "cd", "e", "", "ij"}},
		{[]uint16{5, 6, 65535}, []string{"ab", "cd", "efg", "", "ijk"}},
		{[]uint16{1, 1, 1, 1, 1, 1}, []string{"a", "cd", "ef", "", "ijk"}},
	} {
		d := newDisk(t, 100)
		for i := range all { // not by rising names
			y := all[(3*i+1)%len(all)]
			write(t, d, y.name, y.lasts, y.loose)
		}
		d.Crash(x.picks)
		var want []content
		for i, y := range all {
			want = append(want, content{y.name, x.want[i], ""})
		}
		wantModel(t, "Crash", d, &model{files: want})
	}
}

// Behind a crash the power is on, and there is no fuse, whether it was off or not; the quota stays.
func TestCrashPutsThePowerOn(t *testing.T) {
	for n := range 5 {
		d := newDisk(t, 4)
		wantOK(t, d.Create("a"))
		d.Fuse(n)
		for range 3 {
			d.Append("a", []byte("x"))
		}
		d.Crash([]uint16{65535})
		if d.Off() {
			t.Fatal("the power is off")
		}
		for range 9 {
			wantError(t, "Sync behind a crash", d.Sync("a"), api.OK)
		}
		room := 4 - d.Used()
		wantError(t, "Append above the quota", d.Append("a", make([]byte, room+1)), api.ErrFull)
		wantError(t, "Append", d.Append("a", make([]byte, room)), api.OK)
	}
	d := newDisk(t, 4)
	d.Crash([]uint16{1})
	wantModel(t, "Crash of an empty disk", d, &model{})
}

// P13.5: Copy

func TestCopyHasAllTheSame(t *testing.T) {
	d, m := fuseDisk(t)
	d.Fuse(2)
	c := d.Copy()
	wantModel(t, "Copy", c, m)
	for _, x := range []*files.Disk{c, d} { // the fuse of the one is not that of the other
		wantOK(t, x.Sync("b"))
		wantError(t, "Sync that the fuse ends", x.Sync("b"), api.ErrOff)
	}
	m.off = true
	wantModel(t, "Copy of a disk whose power is off", d.Copy(), m)
	wantError(t, "Sync of such a copy", d.Copy().Sync("b"), api.ErrOff)
	d.Crash([]uint16{0})
	wantError(t, "Append above the quota", d.Copy().Append("b", make([]byte, 95)), api.ErrFull)
	wantError(t, "Append", d.Copy().Append("b", make([]byte, 94)), api.OK)
}

func TestCopyLivesApart(t *testing.T) {
	for what, change := range changes() {
		for _, ofCopy := range []bool{false, true} {
			d, m := fuseDisk(t)
			one, other := d, d.Copy()
			if ofCopy {
				one, other = other, one
			}
			wantOK(t, change(one), one.Create("z"), one.Append("z", []byte("z")))
			one.Quota(0)
			wantModel(t, what+" of the other", other, m)
			one.Fuse(1)
			wantError(t, "Create that the fuse ends", one.Create("y"), api.ErrOff)
			wantModel(t, what+" of the other", other, m)
			one.Crash(nil)
			wantModel(t, what+" of the other", other, m)
			wantOK(t, other.Append("a", []byte("x")), other.Append("b", []byte("x")))
		}
	}
	d, m := fuseDisk(t)
	c := d.Copy()
	wantOK(t, d.Append("a", []byte("1")), c.Append("a", []byte("2"))) // there may be room behind the bytes of both
	wantModel(t, "Append to both", d, &model{files: []content{{"a", "abc", "de1"}, m.files[1]}})
	wantModel(t, "Append to both", c, &model{files: []content{{"a", "abc", "de2"}, m.files[1]}})
}

func TestCopyOfNoFiles(t *testing.T) {
	d := newDisk(t, 3)
	c := d.Copy()
	wantModel(t, "Copy", c, &model{})
	wantOK(t, c.Create("a"), c.Append("a", []byte("abc")))
	wantError(t, "Append above the quota", c.Append("a", []byte("d")), api.ErrFull)
	wantModel(t, "what was copied", d, &model{})
}

// P13.6

func TestNoDisk(t *testing.T) {
	for what, d := range noDisks() {
		for range 2 { // as nothing must make it one
			d.Quota(10)
			d.Fuse(1)
			d.Fuse(0)
			d.Crash(nil)
			d.Crash([]uint16{1})
			if l, n := d.Names(), d.Used(); len(l) != 0 || n != 0 {
				t.Errorf("%s: Names tells %q, Used %d", what, l, n)
			}
			if !d.Off() {
				t.Errorf("%s: the power is on", what)
			}
			if c := d.Copy(); c != nil {
				t.Errorf("%s: Copy tells %v", what, c)
			}
			wantAll(t, what, d, "a", api.ErrNil)
		}
	}
}

// P13.1 to P13.5 together: whatever is called, one call behind the other, all is as told.
func TestRowsOfCalls(t *testing.T) {
	for seed := range 300 {
		l := lottery(seed)
		d, m := newDisk(t, 40), &model{quota: 40}
		if seed%2 == 0 { // half of them without quota and fuse, which end most rows soon
			d, m = newDisk(t, 1000), &model{quota: 1000}
		}
		for range 150 {
			kind := l.below(kinds)
			if seed%2 == 0 && (kind == 6 || kind == 7) {
				kind = 1
			}
			step(t, d, m, kind, &l)
			wantModel(t, "seed "+strconv.Itoa(seed), d, m)
		}
	}
}

// P13.7

// wantBeginnings wants each file to have what lasted, and a beginning of what it had.
func wantBeginnings(t *testing.T, ahead []content, behind *files.Disk) {
	t.Helper()
	if got := behind.Names(); len(got) != len(ahead) {
		t.Fatalf("files behind a crash: %q, want %q", got, ahead)
	}
	for _, x := range ahead {
		b, e := behind.Read(x.name)
		if e != api.OK || !strings.HasPrefix(string(b), x.lasts) || !strings.HasPrefix(x.lasts+x.loose, string(b)) {
			t.Fatalf("%s behind a crash: %q, error %d, of %q that lasted, and %q that was loose", x.name, b, e, x.lasts, x.loose)
		}
		if n, e := behind.Loose(x.name); n != 0 || e != api.OK {
			t.Fatalf("%s behind a crash: %d loose bytes, error %d", x.name, n, e)
		}
	}
}

// The files ahead of the crash are told by the calls alone, without the model.
func TestSyncedLasts(t *testing.T) {
	for seed := range 300 {
		l := lottery(seed)
		d, m := newDisk(t, 1000), &model{quota: 1000}
		for range 40 {
			for range l.below(8) {
				step(t, d, m, l.below(6), &l)
			}
			var ahead []content
			for _, name := range d.Names() {
				b, e := d.Read(name)
				n, f := d.Loose(name)
				wantOK(t, e, f)
				ahead = append(ahead, content{name, string(b[:len(b)-n]), string(b[len(b)-n:])})
			}
			var picks []uint16
			for range l.below(6) {
				picks = append(picks, uint16(l.below(65536)))
			}
			d.Crash(picks)
			m.crash(picks)
			wantBeginnings(t, ahead, d)
		}
	}
}

// What was synced lasts behind any calls that leave its file alone, and any crashes.
func TestSyncedLastsWhileOthersChange(t *testing.T) {
	for seed := range 200 {
		l := lottery(seed)
		d, m := newDisk(t, 1000), &model{quota: 1000}
		write(t, d, "kept", "what was synced", "")
		write(t, d, "renamed", "this, too", "")
		m.put(content{"kept", "what was synced", ""})
		m.put(content{"renamed", "this, too", ""})
		at := "renamed"
		for i := range 100 {
			step(t, d, m, l.below(kinds), &l)
			if i%10 == 9 {
				to := "renamed-" + strconv.Itoa(i)
				e := d.Rename(at, to)
				wantError(t, "Rename", e, m.rename(at, to))
				if e == api.OK {
					at = to
				}
			}
			c := d.Copy()
			c.Crash(nil)
			one, e := c.Read("kept")
			two, f := c.Read(at)
			if string(one) != "what was synced" || string(two) != "this, too" || e != api.OK || f != api.OK {
				t.Fatalf("behind a crash: %q, error %d, and %q, error %d", one, e, two, f)
			}
		}
	}
}

// P13.8

// replace writes a file under another name, syncs and renames it, up to the first error.
func replace(d *files.Disk, text string) api.Errno {
	for _, do := range []func() api.Errno{
		func() api.Errno { return d.Create("head.new") },
		func() api.Errno { return d.Append("head.new", []byte(text)) },
		func() api.Errno { return d.Sync("head.new") },
		func() api.Errno { return d.Rename("head.new", "head") },
	} {
		if e := do(); e != api.OK {
			return e
		}
	}
	return api.OK
}

func TestInPlace(t *testing.T) {
	const former, anew = "the former", "the new one, which is longer"
	for fuse := range 6 {
		for pick := range len(anew) + 1 {
			for _, loose := range []string{"", "left behind"} { // by a write ahead of this one
				d := newDisk(t, 100)
				write(t, d, "head", former, "")
				write(t, d, "head.new", "", loose)
				d.Fuse(fuse)
				e := replace(d, anew)
				d.Crash([]uint16{uint16(pick), uint16(pick)})
				want := former
				if fuse == 0 || fuse > 4 {
					wantError(t, "all of it", e, api.OK)
					want = anew
				} else {
					wantError(t, "a part of it", e, api.ErrOff)
				}
				if b, e := d.Read("head"); e != api.OK || string(b) != want {
					t.Fatalf("behind a crash, fuse %d, pick %d: %q, error %d, want %q", fuse, pick, b, e, want)
				}
				wantError(t, "again", replace(d, "again"), api.OK)
				d.Crash(nil)
				if b, _ := d.Read("head"); string(b) != "again" {
					t.Fatalf("behind another write: %q", b)
				}
			}
		}
	}
}

// P7: names and bytes may be any.
func FuzzCalls(f *testing.F) {
	f.Add([]byte{0, 1, 3, 1, 8}, uint64(1), 40)
	f.Add(bytes.Repeat([]byte{0, 1, 2, 3, 4, 5}, 9), uint64(7), 3)
	f.Add([]byte{7, 0, 0, 1, 8, 0, 6, 1, 1, 4, 4, 5}, uint64(9), 100)
	f.Fuzz(func(t *testing.T, row []byte, seed uint64, quota int) {
		d, e := files.New(quota)
		if quota < 0 {
			if e != api.ErrArg || d != nil {
				t.Fatalf("New(%d): %v, error %d", quota, d, e)
			}
			return
		}
		l, m := lottery(seed), &model{quota: quota}
		for _, c := range row {
			step(t, d, m, int(c)%kinds, &l)
			wantModel(t, "a row", d, m)
		}
	})
}

func FuzzNames(f *testing.F) {
	for _, name := range append(names(), noNames()...) {
		f.Add(name)
	}
	f.Fuzz(func(t *testing.T, name string) {
		d, m := newDisk(t, 10), &model{quota: 10}
		wantError(t, "Create", d.Create(name), m.create(name))
		wantError(t, "Append", d.Append(name, []byte(name)), m.append(name, []byte(name)))
		wantError(t, "Sync", d.Sync(name), m.sync(name))
		wantError(t, "Create", d.Create("a"), m.create("a"))
		wantError(t, "Rename", d.Rename("a", name), m.rename("a", name))
		wantModel(t, "a name", d, m)
		wantError(t, "Remove", d.Remove(name), m.remove(name))
		wantModel(t, "a name removed", d, m)
	})
}
