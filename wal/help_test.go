package wal_test

import (
	"encoding/binary"
	"fmt"
	"hash/crc32"
	"math"
	"slices"
	"strings"
	"testing"

	"escritoire/api"
	"escritoire/files"
	"escritoire/wal"
)

// The document's limits, in numbers of the tests' own.
const (
	longestRecord = 4096
	mostRecords   = 8
	mostFiles     = 4096
	lastSegment   = 99999999
)

// fileOf is the name of a segment's file.
func fileOf(segment int) string {
	return fmt.Sprintf("wal-%08d", segment)
}

// frameOf is a frame, put together by the library.
func frameOf(data string) string {
	b := binary.BigEndian.AppendUint32(nil, uint32(len(data)))
	b = binary.BigEndian.AppendUint32(b, crc32.ChecksumIEEE([]byte(data)))
	return string(b) + data
}

// framesOf are the frames of these, one behind the other.
func framesOf(data ...string) string {
	var b strings.Builder
	for _, x := range data {
		b.WriteString(frameOf(x))
	}
	return b.String()
}

// recordsOf are those of a segment's bytes, found by trying all lengths, from the back of b's first bytes.
func recordsOf(b string) []string {
	for n := 1; n <= longestRecord && n+8 <= len(b); n++ {
		if frameOf(b[8:8+n]) == b[:8+n] {
			return append([]string{b[8 : 8+n]}, recordsOf(b[8+n:])...)
		}
	}
	return nil
}

// segmentsOf are the numbers of those of some files that are segments, rising.
func segmentsOf(names []string) []int {
	var out []int
	for _, name := range names {
		var n int
		if _, e := fmt.Sscanf(name, "wal-%d", &n); e == nil && n > 0 && name == fileOf(n) && len(name) == 12 {
			out = append(out, n)
		}
	}
	slices.Sort(out)
	return out
}

// noLogs are some that Open did not make.
func noLogs() map[string]*wal.Wal {
	return map[string]*wal.Wal{"nil": nil, "zero": {}, "new": new(wal.Wal)}
}

func newDisk(t *testing.T) *files.Disk {
	t.Helper()
	d, e := files.New(math.MaxInt)
	wantOK(t, e)
	return d
}

// write makes a file, of which the first bytes last.
func write(t *testing.T, d *files.Disk, name, lasts, loose string) {
	t.Helper()
	wantOK(t, d.Create(name), d.Append(name, []byte(lasts)), d.Sync(name), d.Append(name, []byte(loose)))
}

// open is Open of a disk that has a log with these records.
func open(t *testing.T, d *files.Disk, want ...record) *wal.Wal {
	t.Helper()
	w, got, e := wal.Open(d)
	if e != api.OK || w == nil {
		t.Fatalf("Open: %v, error %d", w, e)
	}
	wantRecords(t, "Open", got, want)
	return w
}

// fill opens a log on a disk, and appends n records to it.
func fill(t *testing.T, d *files.Disk, n int) *wal.Wal {
	t.Helper()
	w := open(t, d)
	for i := range n {
		wantAppend(t, w, text(i), 1+i/mostRecords)
	}
	return w
}

// text is the record that fill appends as that one.
func text(i int) string {
	return fmt.Sprint("record ", i)
}

// texts are those from one up to another, without that.
func texts(from, to int) []string {
	var out []string
	for i := from; i < to; i++ {
		out = append(out, text(i))
	}
	return out
}

// record is a record that is wanted.
type record struct {
	segment int
	data    string
}

// in are the records of a segment.
func in(segment int, data ...string) []record {
	var out []record
	for _, x := range data {
		out = append(out, record{segment, x})
	}
	return out
}

func wantRecords(t *testing.T, what string, got []wal.Record, want []record) {
	t.Helper()
	var l []record
	for _, x := range got {
		l = append(l, record{x.Segment, string(x.Data)})
	}
	if !slices.Equal(l, want) {
		t.Fatalf("%s: records %v, want %v", what, l, want)
	}
}

// wantNoLog wants an Open to tell an error, and nothing beside it.
func wantNoLog(t *testing.T, what string, d *files.Disk, want api.Errno) {
	t.Helper()
	w, l, e := wal.Open(d)
	if w != nil || len(l) != 0 || e != want {
		t.Errorf("%s: Open tells %v, %v, error %d, want error %d alone", what, w, l, e, want)
	}
}

func wantAppend(t *testing.T, w *wal.Wal, data string, want int) {
	t.Helper()
	if got, e := w.Append([]byte(data)); e != api.OK || got != want {
		t.Fatalf("Append(%q): segment %d, error %d, want %d", data, got, e, want)
	}
}

// wantAppendError wants an Append to tell an error, and nothing beside it.
func wantAppendError(t *testing.T, what string, w *wal.Wal, data string, want api.Errno) {
	t.Helper()
	if got, e := w.Append([]byte(data)); e != want || got != 0 {
		t.Fatalf("%s: Append tells %d, error %d, want error %d alone", what, got, e, want)
	}
}

func wantError(t *testing.T, what string, got, want api.Errno) {
	t.Helper()
	if got != want {
		t.Fatalf("%s: error %d, want %d", what, got, want)
	}
}

// wantOK wants the errors of a row of calls all to be OK.
func wantOK(t *testing.T, row ...api.Errno) {
	t.Helper()
	for i, e := range row {
		if e != api.OK {
			t.Fatalf("call %d of the row: error %d", i, e)
		}
	}
}

// wantLog wants what a log tells of itself.
func wantLog(t *testing.T, what string, w *wal.Wal, next int, segments ...int) {
	t.Helper()
	if got := w.Next(); got != next {
		t.Fatalf("%s: Next is %d, want %d", what, got, next)
	}
	if got := w.Segments(); !slices.Equal(got, segments) {
		t.Fatalf("%s: Segments are %d, want %d", what, got, segments)
	}
}

// content is a file's name, and what it has.
type content struct{ name, lasts, loose string }

// filesOf are those of a disk. Its power may be off: what a crash that keeps nothing leaves is what lasts.
func filesOf(t *testing.T, d *files.Disk) []content {
	t.Helper()
	none, full := d.Copy(), d.Copy()
	none.Crash(nil)
	if d.Off() {
		full.Crash(keepAll(d))
	}
	var out []content
	for _, name := range d.Names() {
		lasts, e := none.Read(name)
		b, ee := full.Read(name)
		wantOK(t, e, ee)
		out = append(out, content{name, string(lasts), string(b[len(lasts):])})
	}
	return out
}

// keepAll are the picks of a crash that keeps all loose bytes.
func keepAll(d *files.Disk) []uint16 {
	var picks []uint16
	for left := lossOf(d, picks); left > 0; left = lossOf(d, picks) {
		// The next file that has loose bytes loses none by one of the picks, and the least one does it.
		best, least := uint16(0), left
		for n := 1; n <= left; n++ {
			if loss := lossOf(d, append(picks, uint16(n))); loss < least {
				best, least = uint16(n), loss
			}
		}
		picks = append(picks, best)
	}
	return picks
}

// lossOf is how many bytes a crash with these picks takes away.
func lossOf(d *files.Disk, picks []uint16) int {
	c := d.Copy()
	c.Crash(picks)
	return d.Used() - c.Used()
}

// wantFiles wants a disk to have just these files.
func wantFiles(t *testing.T, what string, d *files.Disk, want ...content) {
	t.Helper()
	if got := filesOf(t, d); !slices.Equal(got, want) {
		t.Fatalf("%s: the disk has %q, want %q", what, got, want)
	}
}

// spoil changes each byte, up to where the room ends: whoever shares memory with b is found by that.
func spoil(b []byte) {
	b = b[:cap(b)]
	for i := range b {
		b[i] ^= 0xff
	}
}

// byWords is a log that does the chapter's words, one by one.
type byWords struct {
	disk                *files.Disk
	next, open, records int
}

// byWordsOf is an Open.
func byWordsOf(d *files.Disk) *byWords {
	r := &byWords{disk: d, next: 1}
	if l := segmentsOf(d.Names()); len(l) > 0 {
		r.next = slices.Max(l) + 1
	}
	return r
}

func (r *byWords) append(data string) (int, api.Errno) {
	if r.open > 0 && r.records == mostRecords {
		if e := r.sync(); e != api.OK {
			return 0, e
		}
		r.open = 0
	}
	if r.open == 0 {
		if e := r.disk.Create(fileOf(r.next)); e != api.OK {
			return 0, e
		}
		r.open, r.records = r.next, 0
		r.next++
	}
	if e := r.disk.Append(fileOf(r.open), []byte(frameOf(data))); e != api.OK {
		return 0, e
	}
	r.records++
	return r.open, api.OK
}

func (r *byWords) sync() api.Errno {
	if r.open == 0 {
		return api.OK
	}
	return r.disk.Sync(fileOf(r.open))
}

func (r *byWords) retire(before int) api.Errno {
	for _, n := range segmentsOf(r.disk.Names()) {
		if n < before && n != r.open {
			if e := r.disk.Remove(fileOf(n)); e != api.OK {
				return e
			}
		}
	}
	return api.OK
}

// lottery tells numbers of a seed, by a rule of its own.
type lottery uint64

// below is a number from 0 on below n.
func (l *lottery) below(n int) int {
	*l = *l*6364136223846793005 + 1442695040888963407
	return int(uint64(*l)>>33) % n
}
