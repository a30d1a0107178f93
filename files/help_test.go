package files_test

import (
	"bytes"
	"math"
	"slices"
	"strings"
	"testing"

	"escritoire/api"
	"escritoire/files"
)

// The document's limits, in numbers of the tests' own.
const (
	longestName = 32
	mostFiles   = 4096
)

// bytesOfNames are all bytes that may stand in a name, rising.
const bytesOfNames = "-.0123456789abcdefghijklmnopqrstuvwxyz"

// noNames are texts that no file may have as its name.
func noNames() []string {
	out := []string{"", strings.Repeat("a", longestName+1), strings.Repeat("a", 256+1), strings.Repeat("-", 1000), "a/b", "a_b", "a b", " ab", "ab ", "Ab", "aB", "\u00e9", "a\u00e9", "wal-0000000\u0661", "\u0430"}
	for c := range 256 {
		if strings.IndexByte(bytesOfNames, byte(c)) < 0 {
			x := string([]byte{byte(c)})
			out = append(out, x, "a"+x, x+"a", strings.Repeat("a", longestName-1)+x)
		}
	}
	return out
}

// names are some that a file may have.
func names() []string {
	out := []string{strings.Repeat("a", longestName), strings.Repeat("a", longestName-1), strings.Repeat(".", longestName), bytesOfNames[:longestName], bytesOfNames[len(bytesOfNames)-longestName:], "wal-00000001", "head.new", "..", "a.", "-a"}
	for c := range len(bytesOfNames) {
		out = append(out, bytesOfNames[c:c+1])
	}
	return out
}

// noDisks are some that New did not make.
func noDisks() map[string]*files.Disk {
	return map[string]*files.Disk{"nil": nil, "zero": {}, "new": new(files.Disk)}
}

func newDisk(t *testing.T, quota int) *files.Disk {
	t.Helper()
	d, e := files.New(quota)
	if e != api.OK || d == nil {
		t.Fatalf("New(%d): %v, error %d", quota, d, e)
	}
	return d
}

// bigDisk is one that bytes do not fill.
func bigDisk(t *testing.T) *files.Disk {
	t.Helper()
	return newDisk(t, math.MaxInt)
}

func wantError(t *testing.T, what string, got, want api.Errno) {
	t.Helper()
	if got != want {
		t.Fatalf("%s: error %d, want %d", what, got, want)
	}
}

// wantOK wants the errors of a row of calls all to be OK.
func wantOK(t *testing.T, row ...api.Errno) {
	t.Helper()
	for i, e := range row {
		if e != api.OK {
			t.Fatalf("call %d of the row: error %d", i, e)
		}
	}
}

// write makes a file that has these bytes.
func write(t *testing.T, d *files.Disk, name, lasts, loose string) {
	t.Helper()
	wantOK(t, d.Create(name), d.Append(name, []byte(lasts)), d.Sync(name), d.Append(name, []byte(loose)))
}

// content is a file's name, and what it has.
type content struct{ name, lasts, loose string }

// model is what a disk should be, its files by rising names.
type model struct {
	files       []content
	quota, fuse int
	off         bool
}

func (m *model) at(name string) (int, bool) {
	return slices.BinarySearchFunc(m.files, name, func(x content, name string) int { return strings.Compare(x.name, name) })
}

func (m *model) used() int {
	n := 0
	for _, x := range m.files {
		n += len(x.lasts) + len(x.loose)
	}
	return n
}

// looses are how many loose bytes the files have that have any.
func (m *model) looses() []int {
	var out []int
	for _, x := range m.files {
		if x.loose != "" {
			out = append(out, len(x.loose))
		}
	}
	return out
}

// ask is the first error of a call that wants the first of the names to be there.
func (m *model) ask(names ...string) api.Errno {
	if m.off {
		return api.ErrOff
	}
	for _, name := range names {
		if len(name) == 0 || len(name) > longestName || strings.Trim(name, bytesOfNames) != "" {
			return api.ErrArg
		}
	}
	if _, is := m.at(names[0]); !is {
		return api.ErrNone
	}
	return api.OK
}

// do does a change, if it tells no error, and the power stays.
func (m *model) do(e api.Errno, change func()) api.Errno {
	if e != api.OK {
		return e
	}
	if m.fuse == 1 {
		m.fuse, m.off = 0, true
		return api.ErrOff
	}
	m.fuse = max(m.fuse-1, 0)
	change()
	return api.OK
}

func (m *model) take(name string) content {
	i, is := m.at(name)
	if !is {
		return content{}
	}
	x := m.files[i]
	m.files = slices.Delete(m.files, i, i+1)
	return x
}

func (m *model) put(x content) {
	m.take(x.name)
	i, _ := m.at(x.name)
	m.files = slices.Insert(m.files, i, x)
}

func (m *model) create(name string) api.Errno {
	e := m.ask(name)
	if e == api.ErrNone {
		e = api.OK
		if len(m.files) == mostFiles {
			e = api.ErrFull
		}
	}
	return m.do(e, func() { m.put(content{name: name}) })
}

func (m *model) append(name string, b []byte) api.Errno {
	e := m.ask(name)
	if e == api.OK && len(b) > 0 && float64(m.used())+float64(len(b)) > float64(m.quota) {
		e = api.ErrFull
	}
	return m.do(e, func() {
		x := m.take(name)
		x.loose += string(b)
		m.put(x)
	})
}

func (m *model) sync(name string) api.Errno {
	return m.do(m.ask(name), func() {
		x := m.take(name)
		m.put(content{name: name, lasts: x.lasts + x.loose})
	})
}

func (m *model) rename(from, to string) api.Errno {
	return m.do(m.ask(from, to), func() {
		x := m.take(from)
		x.name = to
		m.put(x)
	})
}

func (m *model) remove(name string) api.Errno {
	return m.do(m.ask(name), func() { m.take(name) })
}

func (m *model) crash(picks []uint16) {
	k := 0
	for i, x := range m.files {
		if x.loose == "" {
			continue
		}
		keep := 0
		if k < len(picks) {
			keep = int(picks[k]) % (len(x.loose) + 1)
		}
		m.files[i] = content{name: x.name, lasts: x.lasts + x.loose[:keep]}
		k++
	}
	m.off, m.fuse = false, 0
}

func (m *model) copy() *model {
	out := *m
	out.files = slices.Clone(m.files)
	return &out
}

// wantFiles wants a disk whose power is on to have just these files.
func wantFiles(t *testing.T, what string, d *files.Disk, want ...content) {
	t.Helper()
	m := &model{files: want}
	if d.Off() {
		t.Fatalf("%s: the power is off", what)
	}
	wantNames(t, what, d, m)
	for _, x := range want {
		if b, e := d.Read(x.name); e != api.OK || string(b) != x.lasts+x.loose {
			t.Fatalf("%s: Read of %s tells %q, error %d, want %q", what, x.name, b, e, x.lasts+x.loose)
		}
		if n, e := d.Loose(x.name); e != api.OK || n != len(x.loose) {
			t.Fatalf("%s: Loose of %s tells %d, error %d, want %d", what, x.name, n, e, len(x.loose))
		}
	}
}

// wantNames wants what may be asked of a disk whose power is off, too.
func wantNames(t *testing.T, what string, d *files.Disk, m *model) {
	t.Helper()
	var want []string
	for _, x := range m.files {
		want = append(want, x.name)
	}
	if got := d.Names(); !slices.Equal(got, want) {
		t.Fatalf("%s: Names tells %q, want %q", what, got, want)
	}
	if got := d.Used(); got != m.used() {
		t.Fatalf("%s: Used tells %d, want %d", what, got, m.used())
	}
}

// wantModel wants a disk to be as the model is: by what it tells, and by what its copies keep in a crash.
func wantModel(t *testing.T, what string, d *files.Disk, m *model) {
	t.Helper()
	if d.Off() != m.off {
		t.Fatalf("%s: Off tells %v", what, d.Off())
	}
	wantNames(t, what, d, m)
	if !m.off {
		wantFiles(t, what, d, m.files...)
	}
	var all []uint16
	for _, n := range m.looses() {
		all = append(all, uint16(n))
	}
	for _, picks := range [][]uint16{nil, all} {
		c, n := d.Copy(), m.copy()
		c.Crash(picks)
		n.crash(picks)
		wantFiles(t, what+", crashed", c, n.files...)
	}
}

// lottery tells numbers of a seed, by a rule of its own.
type lottery uint64

// below is a number from 0 on below n.
func (l *lottery) below(n int) int {
	*l = *l*6364136223846793005 + 1442695040888963407
	return int(uint64(*l)>>33) % n
}

// someNames are few, so that rows of calls meet the same ones; two of them may not be.
var someNames = []string{"a", "b", "a.", "head", "head.new", "", "A"}

// step does one call on both, of a kind from 0 to kinds - 1, and wants the same error.
func step(t *testing.T, d *files.Disk, m *model, kind int, l *lottery) {
	t.Helper()
	name, other := someNames[l.below(len(someNames))], someNames[l.below(len(someNames))]
	var got, want api.Errno
	switch kind {
	case 0:
		got, want = d.Create(name), m.create(name)
	case 1, 2:
		b := bytes.Repeat([]byte{byte('a' + l.below(26))}, l.below(6))
		got, want = d.Append(name, b), m.append(name, b)
	case 3:
		got, want = d.Sync(name), m.sync(name)
	case 4:
		got, want = d.Rename(name, other), m.rename(name, other)
	case 5:
		got, want = d.Remove(name), m.remove(name)
	case 6:
		n := l.below(60) - 5
		d.Quota(n)
		m.quota = max(n, 0)
	case 7:
		n := l.below(30) - 3
		d.Fuse(n)
		m.fuse = max(n, 0)
	case 8:
		var picks []uint16
		for range l.below(5) {
			picks = append(picks, uint16(l.below(math.MaxUint16+1)))
		}
		d.Crash(picks)
		m.crash(picks)
	}
	if got != want {
		t.Fatalf("call of kind %d, of %q and %q: error %d, want %d", kind, name, other, got, want)
	}
}

// kinds is how many kinds of calls step knows.
const kinds = 9

// changes are the calls that a fuse counts, each OK on the disk of fuseDisk.
func changes() map[string]func(d *files.Disk) api.Errno {
	return map[string]func(d *files.Disk) api.Errno{
		"Create":                  func(d *files.Disk) api.Errno { return d.Create("new") },
		"Create of what there is": func(d *files.Disk) api.Errno { return d.Create("a") },
		"Append":                  func(d *files.Disk) api.Errno { return d.Append("a", []byte("xy")) },
		"Append of none":          func(d *files.Disk) api.Errno { return d.Append("a", nil) },
		"Sync":                    func(d *files.Disk) api.Errno { return d.Sync("a") },
		"Sync of what lasts":      func(d *files.Disk) api.Errno { return d.Sync("b") },
		"Rename":                  func(d *files.Disk) api.Errno { return d.Rename("a", "c") },
		"Rename over another":     func(d *files.Disk) api.Errno { return d.Rename("a", "b") },
		"Rename to the same":      func(d *files.Disk) api.Errno { return d.Rename("a", "a") },
		"Remove":                  func(d *files.Disk) api.Errno { return d.Remove("a") },
	}
}

// fuseDisk is a disk with a file that has loose bytes, and one that has none, and its model.
func fuseDisk(t *testing.T) (*files.Disk, *model) {
	t.Helper()
	d := newDisk(t, 100)
	write(t, d, "a", "abc", "de")
	write(t, d, "b", "fgh", "")
	return d, &model{files: []content{{"a", "abc", "de"}, {"b", "fgh", ""}}, quota: 100}
}

// spoil changes each byte, up to where the room ends: whoever shares memory with b is found by that.
func spoil(b []byte) {
	b = b[:cap(b)]
	for i := range b {
		b[i] ^= 0xff
	}
}
