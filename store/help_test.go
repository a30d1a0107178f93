package store_test

import (
	"bytes"
	"crypto/sha256"
	"fmt"
	"math"
	"slices"
	"strconv"
	"strings"
	"testing"

	"escritoire/api"
	"escritoire/files"
	"escritoire/place"
	"escritoire/store"
)

// The document's limits, in numbers of the tests' own.
const (
	width      = 16
	height     = 4
	tileLevels = 6
	topLevel   = 20
	mostLeaves = 1 << 20
	mostCerts  = 4
	mostBytes  = 512
	mostFiles  = 4096
)

// noStores are some that Open did not make.
func noStores() map[string]*store.Store {
	return map[string]*store.Store{"nil": nil, "zero": {}, "new": new(store.Store)}
}

// of is an entry of that time and these certificates.
func of(time uint64, certs ...string) api.Entry {
	x := api.Entry{Time: time}
	for _, c := range certs {
		x.Chain = append(x.Chain, []byte(c))
	}
	return x
}

// long is a certificate of so many bytes, which are not all the same.
func long(n int) string {
	out := make([]byte, n)
	for i := range out {
		out[i] = byte(i*7 + i>>8 + n)
	}
	return string(out)
}

// entryOf is an entry of its own for each number, of one to four certificates.
func entryOf(n int) api.Entry {
	x := of(uint64(n)<<20, "certificate "+strconv.Itoa(n))
	for i := range n % mostCerts {
		x.Chain = append(x.Chain, []byte(long(1+(n+i)%5)))
	}
	return x
}

// entriesOf are those of the numbers from one up to another, without that.
func entriesOf(from, to int) []api.Entry {
	var out []api.Entry
	for n := from; n < to; n++ {
		out = append(out, entryOf(n))
	}
	return out
}

// bad are entries that may not be, by what is wrong with them.
func bad() map[string]api.Entry {
	return map[string]api.Entry{
		"the zero entry":            {},
		"no certificates":           of(258),
		"a nil certificate":         {Time: 1, Chain: [][]byte{nil}},
		"an empty one at the end":   of(1, "a", "b", "c", ""),
		"five certificates":         of(1, "a", "b", "c", "d", "e"),
		"a byte too many":           of(1, long(mostBytes+1)),
		"a byte too many, the last": of(1, "a", "b", "c", long(mostBytes+1)),
	}
}

// numberOf is n in so many bytes, worked out by division.
func numberOf(n uint64, size int) string {
	out := make([]byte, size)
	for i := size - 1; i >= 0; i-- {
		out[i] = byte(n % 256)
		n /= 256
	}
	return string(out)
}

// vector is data as a vector of 3.
func vector(data string) string {
	return numberOf(uint64(len(data)), 3) + data
}

// recordOf is an entry's record.
func recordOf(x api.Entry) string {
	var all strings.Builder
	for _, c := range x.Chain {
		all.WriteString(vector(string(c)))
	}
	return numberOf(x.Time, 8) + vector(all.String())
}

// bundleOf is the bytes of a bundle of these entries.
func bundleOf(l []api.Entry) string {
	var out strings.Builder
	for _, x := range l {
		out.WriteString(vector(recordOf(x)))
	}
	return out.String()
}

// tileOf is the bytes of a tile of these hashes.
func tileOf(l []api.Digest) string {
	var out strings.Builder
	for _, x := range l {
		out.Write(x[:])
	}
	return out.String()
}

func equal(a, b api.Entry) bool {
	return recordOf(a) == recordOf(b)
}

// leafOf is the hash of an entry.
func leafOf(x api.Entry) api.Digest {
	return sha256.Sum256([]byte("\x00" + "\x00\x00" + numberOf(x.Time, 8) + "\x00\x00" + vector(string(x.Chain[0])) + "\x00\x00"))
}

// nodeOf is the hash of a node.
func nodeOf(a, b api.Digest) api.Digest {
	return sha256.Sum256([]byte("\x01" + string(a[:]) + string(b[:])))
}

// hashOf is a hash of its own for each number, that is no entry's.
func hashOf(n int) api.Digest {
	return sha256.Sum256([]byte("hash " + strconv.Itoa(n)))
}

// hashesOf are those of the numbers from one up to another, without that.
func hashesOf(from, to int) []api.Digest {
	var out []api.Digest
	for n := from; n < to; n++ {
		out = append(out, hashOf(n))
	}
	return out
}

// rootOf is the head of a list of hashes of leaves.
func rootOf(l []api.Digest) api.Digest {
	switch len(l) {
	case 0:
		return sha256.Sum256(nil)
	case 1:
		return l[0]
	}
	k := 1
	for 2*k < len(l) {
		k *= 2
	}
	return nodeOf(rootOf(l[:k]), rootOf(l[k:]))
}

// tree is entries, and the heads of all nodes over them, level by level.
type tree struct {
	entries []api.Entry
	nodes   [topLevel + 1][]api.Digest
}

// treeOf is the tree of these entries.
func treeOf(l []api.Entry) *tree {
	x := &tree{entries: l}
	for _, e := range l {
		x.nodes[0] = append(x.nodes[0], leafOf(e))
	}
	for level := range topLevel {
		beneath := x.nodes[level]
		for i := range len(beneath) / 2 {
			x.nodes[level+1] = append(x.nodes[level+1], nodeOf(beneath[2*i], beneath[2*i+1]))
		}
	}
	return x
}

// first is the tree of its first leaves.
func (x *tree) first(size int) *tree {
	out := &tree{entries: x.entries[:size]}
	for level := range x.nodes {
		out.nodes[level] = x.nodes[level][:size>>level]
	}
	return out
}

// content is a file's name, and what it has.
type content struct{ name, lasts, loose string }

// files are those of the tree: the bundles, then the tiles, level by level.
func (x *tree) files() []content {
	var out []content
	number := 0
	for part := range slices.Chunk(x.entries, width) {
		out = append(out, content{bundleName(number, len(part)), bundleOf(part), ""})
		number++
	}
	for level := range tileLevels {
		number = 0
		for part := range slices.Chunk(x.nodes[height*level], width) {
			out = append(out, content{tileName(level, number, len(part)), tileOf(part), ""})
			number++
		}
	}
	return out
}

func bundleName(number, n int) string {
	return fmt.Sprintf("b-%06d-%02d", number, n)
}

func tileName(level, number, n int) string {
	return fmt.Sprintf("t%d-%06d-%02d", level, number, n)
}

// namesOf are the names of files.
func namesOf(l []content) []string {
	var out []string
	for _, x := range l {
		out = append(out, x.name)
	}
	return out
}

func newDisk(t *testing.T) *files.Disk {
	t.Helper()
	d, e := files.New(math.MaxInt)
	wantOK(t, e)
	return d
}

// write makes a file, of which all bytes last.
func write(t *testing.T, d *files.Disk, name, lasts string) {
	t.Helper()
	wantOK(t, d.Create(name), d.Append(name, []byte(lasts)), d.Sync(name))
}

// diskOf is a disk that has the files of a tree, and no other one.
func diskOf(t *testing.T, x *tree) *files.Disk {
	t.Helper()
	d := newDisk(t)
	for _, f := range x.files() {
		write(t, d, f.name, f.lasts)
	}
	return d
}

// off makes the power of a disk go.
func off(t *testing.T, d *files.Disk) {
	t.Helper()
	d.Fuse(1)
	wantError(t, "Create, Fuse(1)", d.Create("x"), api.ErrOff)
}

func open(t *testing.T, d *files.Disk, size uint64) *store.Store {
	t.Helper()
	s, e := store.Open(d, size)
	if e != api.OK || s == nil || s.Size() != size {
		t.Fatalf("Open of %d: %v, of %d, error %d", size, s, s.Size(), e)
	}
	return s
}

// change is one that is done to a disk.
type change struct{ kind, name, data string }

// changes are those that make a store of a tree's first entries one of all of them, by the chapter's words.
func changes(x *tree, size int) []change {
	there := namesOf(x.first(size).files())
	var out []change
	for _, f := range x.files() {
		if !slices.Contains(there, f.name) {
			out = append(out, change{"create", f.name, ""}, change{"append", f.name, f.lasts}, change{"sync", f.name, ""})
		}
	}
	return out
}

// do does changes to a disk.
func do(t *testing.T, d *files.Disk, l ...change) {
	t.Helper()
	for _, x := range l {
		switch x.kind {
		case "create":
			wantOK(t, d.Create(x.name))
		case "append":
			wantOK(t, d.Append(x.name, []byte(x.data)))
		case "sync":
			wantOK(t, d.Sync(x.name))
		}
	}
}

// filesOf are those of a disk, whose power may be off: what crashes leave tells them. At most one file has loose bytes, as the store syncs each.
func filesOf(t *testing.T, d *files.Disk) []content {
	t.Helper()
	none, all := d.Copy(), d.Copy()
	none.Crash(nil)
	all.Crash([]uint16{uint16(d.Used() - none.Used())})
	if all.Used() != d.Used() {
		t.Fatalf("of %d bytes, %d last, and not one file has the others", d.Used(), none.Used())
	}
	var out []content
	for _, name := range d.Names() {
		lasts, e := none.Read(name)
		b, ee := all.Read(name)
		wantOK(t, e, ee)
		out = append(out, content{name, string(lasts), string(b[len(lasts):])})
	}
	return out
}

// wantFiles wants a disk to have just these files.
func wantFiles(t *testing.T, what string, d *files.Disk, want []content) {
	t.Helper()
	got := filesOf(t, d)
	if !slices.Equal(got, want) {
		t.Fatalf("%s: the disk has %q, want %q", what, namesOf(got), namesOf(want))
	}
}

// wantSame wants two disks to have the same files.
func wantSame(t *testing.T, what string, d, other *files.Disk) {
	t.Helper()
	wantFiles(t, what, d, filesOf(t, other))
	if d.Off() != other.Off() {
		t.Fatalf("%s: the power is off: %v, want %v", what, d.Off(), other.Off())
	}
}

// wantTree wants a store of a disk to tell all of a tree.
func wantTree(t *testing.T, what string, d *files.Disk, x *tree) {
	t.Helper()
	size := len(x.entries)
	s := open(t, d, uint64(size))
	for level := range topLevel + 1 {
		for i := range size>>level + 2 {
			wantNode(t, what, s, place.Node{Level: level, Index: uint64(i)}, x)
		}
	}
	for i := range size {
		if got, e := s.Entry(uint64(i)); e != api.OK || !equal(got, x.entries[i]) {
			t.Fatalf("%s, of %d: Entry(%d): %v, error %d", what, size, i, got, e)
		}
	}
	if size > 0 {
		wantHash(t, what+": Root", s.Root, 0, uint64(size), rootOf(x.nodes[0]))
	}
	wantNoEntry(t, what, s, uint64(size), api.ErrRange)
}

// wantNode wants of a node what a tree has of it.
func wantNode(t *testing.T, what string, s *store.Store, n place.Node, x *tree) {
	t.Helper()
	if n.Index >= uint64(len(x.nodes[n.Level])) {
		want := api.ErrRange
		if n.Index >= mostLeaves>>n.Level {
			want = api.ErrArg
		}
		wantNoNode(t, what, s, n, want)
		return
	}
	if got, e := s.Node(n); e != api.OK || got != x.nodes[n.Level][n.Index] {
		t.Fatalf("%s, of %d: Node(%v): %x, error %d, want %x", what, s.Size(), n, got, e, x.nodes[n.Level][n.Index])
	}
}

// wantNoNode wants Node to tell an error alone.
func wantNoNode(t *testing.T, what string, s *store.Store, n place.Node, want api.Errno) {
	t.Helper()
	if got, e := s.Node(n); e != want || got != (api.Digest{}) {
		t.Fatalf("%s: Node(%v): %x, error %d, want error %d alone", what, n, got, e, want)
	}
}

// wantNoEntry wants Entry to tell an error alone.
func wantNoEntry(t *testing.T, what string, s *store.Store, i uint64, want api.Errno) {
	t.Helper()
	if got, e := s.Entry(i); e != want || got.Time != 0 || len(got.Chain) != 0 {
		t.Fatalf("%s: Entry(%d): %v, error %d, want error %d alone", what, i, got, e, want)
	}
}

// wantHash wants a call of two numbers to tell a hash.
func wantHash(t *testing.T, what string, call func(from, to uint64) (api.Digest, api.Errno), from, to uint64, want api.Digest) {
	t.Helper()
	if got, e := call(from, to); e != api.OK || got != want {
		t.Fatalf("%s(%d, %d): %x, error %d, want %x", what, from, to, got, e, want)
	}
}

// wantNoRoot wants Root to tell an error alone.
func wantNoRoot(t *testing.T, what string, s *store.Store, from, to uint64, want api.Errno) {
	t.Helper()
	if got, e := s.Root(from, to); e != want || got != (api.Digest{}) {
		t.Fatalf("%s: Root(%d, %d): %x, error %d, want error %d alone", what, from, to, got, e, want)
	}
}

func wantError(t *testing.T, what string, got, want api.Errno) {
	t.Helper()
	if got != want {
		t.Fatalf("%s: error %d, want %d", what, got, want)
	}
}

// wantOK wants the errors of a row of calls all to be OK.
func wantOK(t *testing.T, row ...api.Errno) {
	t.Helper()
	for i, e := range row {
		if e != api.OK {
			t.Fatalf("call %d of the row: error %d", i, e)
		}
	}
}

// copied are entries in memory of their own.
func copied(l []api.Entry) []api.Entry {
	l = slices.Clone(l)
	for i := range l {
		l[i].Chain = slices.Clone(l[i].Chain)
		for j, c := range l[i].Chain {
			l[i].Chain[j] = bytes.Clone(c)
		}
	}
	return l
}

// spoilEntry changes all that an entry has, up to where its room ends: whoever shares memory with it is found by that.
func spoilEntry(x api.Entry) {
	for _, c := range x.Chain {
		c = c[:cap(c)]
		for i := range c {
			c[i] ^= 0xff
		}
	}
	chain := x.Chain[:cap(x.Chain)]
	for i := range chain {
		chain[i] = []byte("spoilt")
	}
}

// lottery tells numbers of a seed, by a rule of its own.
type lottery uint64

// below is a number from 0 on below n.
func (l *lottery) below(n int) int {
	*l = *l*6364136223846793005 + 1442695040888963407
	return int(uint64(*l)>>33) % n
}
