package wal_test

import (
	"bytes"
	"fmt"
	"math"
	"slices"
	"strings"
	"testing"

	"escritoire/api"
	"escritoire/files"
	"escritoire/wal"
)

// What each promise is held against are limits of the tests' own, which are the given ones.
func TestLimits(t *testing.T) {
	if api.MaxRecord != longestRecord || api.MaxSegment != mostRecords || api.MaxFiles != mostFiles {
		t.Fatalf("records of %d bytes, %d in a segment, %d files", api.MaxRecord, api.MaxSegment, api.MaxFiles)
	}
}

// The chapter's examples, as they stand there.
func TestExamples(t *testing.T) {
	d := newDisk(t)
	w := open(t, d)
	wantAppend(t, w, "ab", 1)
	if b, e := d.Read("wal-00000001"); e != api.OK || len(b) != 10 {
		t.Errorf("wal-00000001: %x, error %d", b, e)
	}
	for i := range 8 {
		wantAppend(t, w, fmt.Sprint(i), 1+(i+1)/8)
	}
	wantLog(t, "nine records", w, 3, 1, 2)
}

func TestExampleOfACrash(t *testing.T) {
	d := newDisk(t)
	w := open(t, d)
	wantAppend(t, w, "synced", 1)
	wantOK(t, w.Sync())
	wantAppend(t, w, "ab", 1)
	d.Crash([]uint16{3})
	w = open(t, d, in(1, "synced")...)
	if w.Next() != 2 {
		t.Errorf("Next is %d", w.Next())
	}
	wantAppend(t, w, "cd", 2)
}

// P15.1: Name

func TestName(t *testing.T) {
	for segment, want := range map[int]string{1: "wal-00000001", 2: "wal-00000002", 9: "wal-00000009", 10: "wal-00000010", 12345: "wal-00012345", 256: "wal-00000256", 9999999: "wal-09999999", 10000000: "wal-10000000", 12345678: "wal-12345678", 99999998: "wal-99999998", 99999999: "wal-99999999"} {
		if got, e := wal.Name(segment); e != api.OK || got != want {
			t.Errorf("Name(%d): %q, error %d, want %q", segment, got, e, want)
		}
	}
}

func TestNameOfNoSegment(t *testing.T) {
	for _, segment := range []int{0, -1, -2, -10000000, -99999999, 100000000, 100000001, 1 << 31, 1<<32 + 1, math.MaxInt, math.MinInt} {
		if got, e := wal.Name(segment); e != api.ErrArg || got != "" {
			t.Errorf("Name(%d): %q, error %d, want ErrArg alone", segment, got, e)
		}
	}
}

// P15.1: Frame

func TestFrame(t *testing.T) {
	got, e := wal.Frame([]byte("123456789"))
	if want := "\x00\x00\x00\x09\xcb\xf4\x39\x26123456789"; e != api.OK || string(got) != want {
		t.Errorf("Frame: %q, error %d, want %q", got, e, want)
	}
	for _, n := range []int{1, 2, 255, 256, 257, 4095, 4096} {
		for _, x := range []string{"\x00", "\xff", "a", "wal-"} {
			data := strings.Repeat(x, n)[:n]
			if got, e := wal.Frame([]byte(data)); e != api.OK || string(got) != frameOf(data) {
				t.Errorf("Frame of %d of %q: %x, error %d", n, x, got, e)
			}
		}
	}
}

func TestFrameOfNoRecord(t *testing.T) {
	for want, l := range map[api.Errno][][]byte{
		api.ErrArg:  {nil, {}},
		api.ErrLong: {make([]byte, 4097), make([]byte, 4098), make([]byte, 8192), make([]byte, 1<<16), make([]byte, 1<<20)},
	} {
		for _, data := range l {
			if got, e := wal.Frame(data); e != want || len(got) != 0 {
				t.Errorf("Frame of %d bytes: %x, error %d, want error %d alone", len(data), got, e, want)
			}
		}
	}
}

func TestFrameIsNewMemory(t *testing.T) {
	data := append(make([]byte, 0, 100), "abc"...)
	got, _ := wal.Frame(data)
	spoil(got)
	if all := string(data[:20]); all != "abc"+strings.Repeat("\x00", 17) {
		t.Errorf("the record is %q now", all)
	}
	got, _ = wal.Frame(data)
	spoil(data)
	if string(got) != frameOf("abc") {
		t.Errorf("the frame is %q now", got)
	}
}

// P15.1: Split

func wantSplit(t *testing.T, what, b string, want ...string) {
	t.Helper()
	got := wal.Split([]byte(b))
	same := func(x []byte, y string) bool { return string(x) == y }
	if !slices.EqualFunc(got, want, same) {
		t.Errorf("%s: Split tells %q, want %q", what, got, want)
	}
}

func TestSplit(t *testing.T) {
	long := strings.Repeat("x", longestRecord)
	for _, l := range [][]string{nil, {"a"}, {"a", "b"}, {"a", "a", "a"}, {"\x00", "\x00\x00"}, {long}, {"a", long, "b", long[1:]}, texts(0, 8), texts(0, 9), texts(0, 300)} {
		wantSplit(t, "frames", framesOf(l...), l...)
	}
	if got := wal.Split(nil); len(got) != 0 {
		t.Errorf("Split(nil): %q", got)
	}
}

// Records whose sums are no ones, and all ones, are records.
func TestSplitOfOddSums(t *testing.T) {
	noughts, ones := "\x9d\x0a\xd9\x6d", "\xff\xff\xff\xff"
	if a, b := frameOf(noughts)[4:8], frameOf(ones)[4:8]; a != "\x00\x00\x00\x00" || b != ones {
		t.Fatalf("sums %x, %x", a, b)
	}
	wantSplit(t, "odd sums", framesOf(noughts, ones, noughts, "a"), noughts, ones, noughts, "a")
}

// Wherever a segment is cut, the records whose frames are whole are told, and no other one.
func TestSplitOfEachBeginning(t *testing.T) {
	l := []string{"a", "bcd", strings.Repeat("e", 30), "f"}
	whole := framesOf(l...)
	for n := range len(whole) + 1 {
		k := 0
		for k < len(l) && len(framesOf(l[:k+1]...)) <= n {
			k++
		}
		wantSplit(t, fmt.Sprintf("the first %d bytes", n), whole[:n], l[:k]...)
	}
}

// Whatever bit is another one, what stands ahead of its frame is told, and nothing from there on.
func TestSplitOfEachOtherBit(t *testing.T) {
	l := []string{"a", "bcd", "", "f"}
	l[2] = strings.Repeat("e", 30)
	whole := framesOf(l...)
	for i := range 8 * len(whole) {
		b := []byte(whole)
		b[i/8] ^= 1 << (i % 8)
		k := 0
		for len(framesOf(l[:k+1]...)) <= i/8 {
			k++
		}
		wantSplit(t, fmt.Sprintf("bit %d turned", i), string(b), l[:k]...)
	}
}

// What no frame is ends a segment, though there are frames behind it.
func TestSplitLeavesTheRest(t *testing.T) {
	tooLong := strings.Repeat("x", longestRecord+1)
	for what, x := range map[string]string{
		"a nought":                       "\x00",
		"four noughts":                   "\x00\x00\x00\x00",
		"a frame of nothing":             frameOf(""),
		"noughts":                        strings.Repeat("\x00", 100),
		"a frame of too many bytes":      frameOf(tooLong),
		"a frame of far too many bytes":  frameOf(strings.Repeat("x", 1<<16+1)),
		"another sum":                    "\x00\x00\x00\x01\x00\x00\x00\x00a",
		"a sum that is not told":         "\x00\x00\x00\x01a",
		"a sum, the lowest byte first":   "\x00\x00\x00\x01" + string([]byte{0x43, 0xbe, 0xb7, 0xe8}) + "a",
		"a length, the lowest first":     "\x01\x00\x00\x00" + frameOf("a")[4:],
		"a length of 2^32 - 1":           "\xff\xff\xff\xff" + frameOf("a")[4:],
		"a length of 2^31":               "\x80\x00\x00\x00" + frameOf("a")[4:],
		"a length of 2^31 - 1":           "\x7f\xff\xff\xff" + frameOf("a")[4:],
		"a length of 2^24 more":          "\x01\x00\x00\x01" + frameOf("a")[4:],
		"a length of 2^16 more":          "\x00\x01\x00\x01" + frameOf("a")[4:],
		"a record without its frame":     "record",
		"a frame without a length":       frameOf("a")[4:],
		"the end of a frame":             frameOf("abc")[1:],
		"a name":                         "wal-00000001",
		"a length and a sum of no bytes": "\x00\x00\x00\x00\x00\x00\x00\x00",
	} {
		wantSplit(t, what, x)
		wantSplit(t, what+", frames behind it", x+framesOf("b", "c"))
		wantSplit(t, what+", frames ahead of it", framesOf("a", "b")+x, "a", "b")
		wantSplit(t, what+", frames on both sides", framesOf("a", "b")+x+framesOf("c", "d"), "a", "b")
	}
}

// A frame whose length is one too many ends in the midst of what stands behind it; the sum tells it.
func TestSplitOfAnotherLength(t *testing.T) {
	for n := range 60 {
		frame := []byte(frameOf("0123456789"))
		frame[3] = byte(n)
		var want []string
		if n == 10 {
			want = []string{"0123456789", "b"}
		}
		wantSplit(t, fmt.Sprintf("a length of %d", n), string(frame)+frameOf("b"), want...)
	}
}

func TestSplitIsNewMemory(t *testing.T) {
	b := append(make([]byte, 0, 200), framesOf("abc", "def", "ghi")...)
	l := wal.Split(b)
	spoil(l[1])
	wantSplit(t, "a record spoiled", string(b), "abc", "def", "ghi")
	if !bytes.Equal(l[0], []byte("abc")) || !bytes.Equal(l[2], []byte("ghi")) {
		t.Errorf("the other records are %q now", l)
	}
	if rest := b[len(b):cap(b)]; !bytes.Equal(rest, make([]byte, len(rest))) {
		t.Errorf("the room behind the frames is %q now", rest)
	}
	spoil(b)
	if string(l[0]) != "abc" || string(l[2]) != "ghi" {
		t.Errorf("the records are %q now", l)
	}
}

func TestSplitOnlyReads(t *testing.T) {
	b := []byte(framesOf("abc", "def") + "rest")
	wal.Split(b)
	if string(b) != framesOf("abc", "def")+"rest" {
		t.Errorf("the segment is %q now", b)
	}
}

func FuzzSplit(f *testing.F) {
	for _, x := range []string{"", "a", framesOf("a", "bc"), framesOf("a") + "\x00\x00\x00\x01", frameOf("") + frameOf("a"), frameOf(strings.Repeat("x", longestRecord+1))} {
		f.Add([]byte(x))
	}
	f.Fuzz(func(t *testing.T, b []byte) {
		wantSplit(t, "bytes", string(b), recordsOf(string(b))...)
		for _, data := range wal.Split(b) {
			if frame, e := wal.Frame(data); e != api.OK || string(frame) != frameOf(string(data)) {
				t.Errorf("Frame(%q): %q, error %d", data, frame, e)
			}
		}
	})
}

// P15.2: Open

func TestOpenOfNothing(t *testing.T) {
	d := newDisk(t)
	wantLog(t, "an empty disk", open(t, d), 1)
	wantFiles(t, "Open", d)
}

func TestOpenOfNoDisk(t *testing.T) {
	wantNoLog(t, "nil", nil, api.ErrNil)
	wantNoLog(t, "zero", &files.Disk{}, api.ErrNil)
	wantNoLog(t, "new", new(files.Disk), api.ErrNil)
}

func TestOpenWithoutPower(t *testing.T) {
	for what, names := range map[string][]string{"empty": nil, "a segment": {"wal-00000001"}, "another": {"wal-00000007"}, "a file": {"head"}} {
		d := newDisk(t)
		for _, name := range names {
			write(t, d, name, frameOf("a"), frameOf("b"))
		}
		d.Fuse(1)
		wantError(t, "Create", d.Create("x"), api.ErrOff)
		wantNoLog(t, what, d, api.ErrOff)
		if !d.Off() {
			t.Errorf("%s: the power is on", what)
		}
	}
}

// The records of all segments, whatever the order in which they were made, and whatever is missing.
func TestOpen(t *testing.T) {
	d := newDisk(t)
	write(t, d, "wal-00000010", framesOf("ten"), "")
	write(t, d, "wal-00000009", framesOf("nine", "and"), framesOf("loose"))
	write(t, d, "head", framesOf("head"), "")
	write(t, d, "wal-00000002", framesOf("b", "b", "b"), "")
	write(t, d, "wal-00000100", "", "")
	write(t, d, "wal-00000011", "", framesOf(texts(0, 20)...))
	want := slices.Concat(in(2, "b", "b", "b"), in(9, "nine", "and", "loose"), in(10, "ten"), in(11, texts(0, 20)...))
	before := filesOf(t, d)
	wantLog(t, "Open", open(t, d, want...), 101, 2, 9, 10, 11, 100)
	wantFiles(t, "Open", d, before...)
}

// What is cut, in whatever segment, is left; the segments behind it are told.
func TestOpenOfTornSegments(t *testing.T) {
	for n := range len(frameOf("torn")) {
		d := newDisk(t)
		torn := frameOf("torn")[:n]
		write(t, d, "wal-00000001", torn, "")
		write(t, d, "wal-00000002", framesOf("a")+torn, "")
		write(t, d, "wal-00000003", framesOf("b")+torn+framesOf("no"), "")
		write(t, d, "wal-00000004", framesOf("c"), torn)
		want := slices.Concat(in(2, "a"), in(3, "b"), in(4, "c"))
		if n == 0 {
			want = slices.Concat(in(2, "a"), in(3, "b", "no"), in(4, "c"))
		}
		wantLog(t, "torn", open(t, d, want...), 5, 1, 2, 3, 4)
	}
}

// Files that have nearly the name of a segment are none, and stay what they are.
func TestOpenOfNoSegments(t *testing.T) {
	names := []string{"wal-00000000", "wal-0000001", "wal-000000001", "wal-1", "wal-", "wal", "wal-0000000a", "wal-a0000000", "wal-000000.1", "wal-000000-1", "wal--0000001", "wal-.0000001", "wal.00000001", "wal00000001", "00000001", "xwal-00000001", "-wal-00000001", "wal-00000001.", "wal-00000001-", "wal-00000001.new", "wal-00000001wal-00000001", "wal-wal-00000001", "wam-00000001", "val-00000001", "wa-00000001", "wal-100000000", "wal-999999990", "wal-0x000001", "wal-1e000001", "head", "t0-000000-01"}
	d := newDisk(t)
	for _, name := range names {
		write(t, d, name, framesOf("a"), framesOf("b"))
	}
	before := filesOf(t, d)
	w := open(t, d)
	wantLog(t, "no segments", w, 1)
	wantOK(t, w.Retire(math.MaxInt))
	wantFiles(t, "no segments", d, before...)
	write(t, d, "wal-00000003", framesOf("c"), "")
	wantLog(t, "one segment", open(t, d, in(3, "c")...), 4, 3)
}

func TestOpenOfEachSegment(t *testing.T) {
	for _, n := range []int{1, 2, 9, 10, 99, 100, 12345678, 87654321, 90000000, 99999998, 99999999} {
		d := newDisk(t)
		write(t, d, fileOf(n), framesOf("a"), "")
		wantLog(t, fileOf(n), open(t, d, in(n, "a")...), n+1, n)
	}
}

// To open it twice is to open it once, and no change of the disk is made.
func TestOpenChangesNothing(t *testing.T) {
	d := newDisk(t)
	fill(t, d, 11)
	before := filesOf(t, d)
	d.Fuse(1)
	want := slices.Concat(in(1, texts(0, 8)...), in(2, texts(8, 11)...))
	for range 3 {
		wantLog(t, "Open", open(t, d, want...), 3, 1, 2)
	}
	wantFiles(t, "Open", d, before...)
	wantError(t, "Create, Fuse(1)", d.Create("x"), api.ErrOff)
}

func TestOpenHasNoOpenSegment(t *testing.T) {
	d := newDisk(t)
	wantAppend(t, fill(t, d, 1), "a", 1)
	w := open(t, d, in(1, text(0), "a")...)
	wantOK(t, w.Sync())
	if n, e := d.Loose("wal-00000001"); e != api.OK || n == 0 {
		t.Errorf("Sync of no open segment: %d loose bytes, error %d", n, e)
	}
	wantAppend(t, w, "b", 2)
	wantOK(t, open(t, d, slices.Concat(in(1, text(0), "a"), in(2, "b"))...).Retire(3))
	wantFiles(t, "Retire", d)
}

func TestOpenTellsNewMemory(t *testing.T) {
	d := newDisk(t)
	fill(t, d, 10)
	_, l, _ := wal.Open(d)
	spoil(l[3].Data)
	want := slices.Concat(in(1, texts(0, 8)...), in(2, texts(8, 10)...))
	open(t, d, want...)
	l = slices.Delete(l, 3, 4)
	wantRecords(t, "one spoiled", l, slices.Delete(want, 3, 4))
}

// P15.2: Segments, Next

// They tell what the disk has now, whoever made it; the next number is the log's own.
func TestSegmentsAreTheDisks(t *testing.T) {
	d := newDisk(t)
	w := fill(t, d, 9)
	write(t, d, "wal-00000070", "", "")
	write(t, d, "wal-00000008", "x", "")
	wantLog(t, "others", w, 3, 1, 2, 8, 70)
	wantOK(t, d.Remove("wal-00000001"), d.Rename("wal-00000008", "head"))
	wantLog(t, "others, gone", w, 3, 2, 70)
	d.Fuse(1)
	wantError(t, "Create", d.Create("x"), api.ErrOff)
	wantLog(t, "without power", w, 3, 2, 70)
}

func TestSegmentsAreNewMemory(t *testing.T) {
	w := fill(t, newDisk(t), 20)
	l := w.Segments()
	l[0], l[1], l[2] = 7, 7, 7
	wantLog(t, "a list of them spoiled", w, 4, 1, 2, 3)
}

// Of no log, all calls tell that, whatever else is wrong.
func TestNoLog(t *testing.T) {
	for what, w := range noLogs() {
		for _, data := range []string{"", "a", strings.Repeat("x", longestRecord+1)} {
			wantAppendError(t, what, w, data, api.ErrNil)
		}
		wantError(t, what+": Sync", w.Sync(), api.ErrNil)
		for _, before := range []int{0, 1, -1, math.MaxInt} {
			wantError(t, what+": Retire", w.Retire(before), api.ErrNil)
		}
		wantLog(t, what, w, 0)
	}
}

// P15.3: Append

func TestAppend(t *testing.T) {
	d := newDisk(t)
	w := open(t, d)
	long := strings.Repeat("x", longestRecord)
	wantAppend(t, w, "\x00", 1)
	wantFiles(t, "one", d, content{"wal-00000001", "", framesOf("\x00")})
	wantAppend(t, w, long, 1)
	wantLog(t, "two", w, 2, 1)
	open(t, d, in(1, "\x00", long)...)
}

// A segment is synced when the first record behind its eighth comes, and not ahead of it.
func TestAppendGoesOnToTheNextSegment(t *testing.T) {
	d := newDisk(t)
	w := fill(t, d, 8)
	wantFiles(t, "eight", d, content{"wal-00000001", "", framesOf(texts(0, 8)...)})
	wantLog(t, "eight", w, 2, 1)
	wantAppend(t, w, "nine", 2)
	wantFiles(t, "nine", d, content{"wal-00000001", framesOf(texts(0, 8)...), ""}, content{"wal-00000002", "", framesOf("nine")})
	wantLog(t, "nine", w, 3, 1, 2)
}

func TestAppendOfMany(t *testing.T) {
	d := newDisk(t)
	fill(t, d, 100)
	var want []record
	for i := range 100 {
		want = append(want, record{1 + i/mostRecords, text(i)})
	}
	wantLog(t, "100", open(t, d, want...), 14, 1, 2, 3, 4, 5, 6, 7, 8, 9, 10, 11, 12, 13)
}

// A record that may not be is told ahead of what the disk tells, and nothing is done.
func TestAppendOfNoRecord(t *testing.T) {
	for _, n := range []int{0, 1, 7, 8} {
		d := newDisk(t)
		w := fill(t, d, n)
		before := filesOf(t, d)
		for range 2 {
			wantAppendError(t, "no bytes", w, "", api.ErrArg)
			wantAppendError(t, "too many bytes", w, strings.Repeat("x", longestRecord+1), api.ErrLong)
			wantFiles(t, "no record", d, before...)
			d.Fuse(1)
			wantError(t, "Create", d.Create("x"), api.ErrOff)
		}
		d.Crash(keepAll(d))
		wantAppend(t, w, "a", 1+n/8)
	}
}

// The errors of each step of an Append, and what was done ahead of it.
func TestAppendWithoutPower(t *testing.T) {
	d := newDisk(t)
	w := fill(t, d, 8)
	eight, nine := framesOf(texts(0, 8)...), framesOf("nine")
	d.Fuse(1)
	wantAppendError(t, "Sync", w, "no", api.ErrOff)
	wantFiles(t, "Sync", d, content{"wal-00000001", "", eight})
	wantLog(t, "Sync", w, 2, 1)
	wantAppendError(t, "no power", w, "no", api.ErrOff)
	d.Crash(keepAll(d))
	wantAppend(t, w, "nine", 2)
	wantFiles(t, "Sync, power on", d, content{"wal-00000001", eight, ""}, content{"wal-00000002", "", nine})

	d = newDisk(t)
	w = fill(t, d, 8)
	d.Fuse(2)
	wantAppendError(t, "Create", w, "no", api.ErrOff)
	wantFiles(t, "Create", d, content{"wal-00000001", eight, ""})
	wantLog(t, "Create", w, 2, 1)
	wantError(t, "Sync of none", w.Sync(), api.OK)
	d.Crash(nil)
	wantAppend(t, w, "nine", 2)
	wantFiles(t, "Create, power on", d, content{"wal-00000001", eight, ""}, content{"wal-00000002", "", nine})

	d = newDisk(t)
	w = fill(t, d, 8)
	d.Fuse(3)
	wantAppendError(t, "Append", w, "no", api.ErrOff)
	wantFiles(t, "Append", d, content{"wal-00000001", eight, ""}, content{"wal-00000002", "", ""})
	wantLog(t, "Append", w, 3, 1, 2)
	wantError(t, "Sync of one", w.Sync(), api.ErrOff)
	d.Crash(nil)
	wantAppend(t, w, "nine", 2)
	wantFiles(t, "Append, power on", d, content{"wal-00000001", eight, ""}, content{"wal-00000002", "", nine})
	wantLog(t, "Append, power on", w, 3, 1, 2)
}

// A first Append makes its segment, and syncs nothing.
func TestFirstAppendWithoutPower(t *testing.T) {
	d := newDisk(t)
	w := open(t, d)
	d.Fuse(1)
	wantAppendError(t, "Create", w, "no", api.ErrOff)
	wantFiles(t, "Create", d)
	wantLog(t, "Create", w, 1)
	d.Crash(nil)
	d.Fuse(2)
	wantAppendError(t, "Append", w, "no", api.ErrOff)
	wantFiles(t, "Append", d, content{"wal-00000001", "", ""})
	wantLog(t, "Append", w, 2, 1)
	d.Crash(nil)
	d.Fuse(2)
	wantAppend(t, w, "a", 1)
	wantFiles(t, "an Append that needs no segment", d, content{"wal-00000001", "", framesOf("a")})
	wantAppendError(t, "another", w, "no", api.ErrOff)
	wantFiles(t, "another", d, content{"wal-00000001", "", framesOf("a")})
}

// What a full disk refuses does not count, and its segment stays open.
func TestAppendOnAFullDisk(t *testing.T) {
	d := newDisk(t)
	w := open(t, d)
	d.Quota(0)
	for range 20 {
		wantAppendError(t, "the first one", w, "a", api.ErrFull)
		wantFiles(t, "the first one", d, content{"wal-00000001", "", ""})
		wantLog(t, "the first one", w, 2, 1)
	}
	d.Quota(math.MaxInt)
	for i := range 8 {
		d.Quota(d.Used() + 8)
		wantAppendError(t, "one byte too many", w, "a", api.ErrFull)
		d.Quota(d.Used() + 9)
		wantAppend(t, w, fmt.Sprint(i), 1)
	}
	wantAppendError(t, "the ninth one", w, "a", api.ErrFull)
	wantLog(t, "the ninth one", w, 3, 1, 2)
	d.Quota(math.MaxInt)
	wantAppend(t, w, "8", 2)
	open(t, d, slices.Concat(in(1, "0", "1", "2", "3", "4", "5", "6", "7"), in(2, "8"))...)
}

// As many files as there may be: the next segment is none, and its number is kept.
func TestAppendWithAllFiles(t *testing.T) {
	d := newDisk(t)
	w := fill(t, d, 8)
	for i := range mostFiles - 1 {
		wantOK(t, d.Create(fmt.Sprint("f", i)))
	}
	for range 3 {
		wantAppendError(t, "all files", w, "no", api.ErrFull)
		wantLog(t, "all files", w, 2, 1)
	}
	if n, e := d.Loose("wal-00000001"); n != 0 || e != api.OK {
		t.Errorf("what was done ahead: %d loose bytes, error %d", n, e)
	}
	wantOK(t, d.Remove("f0"))
	wantAppend(t, w, "a", 2)
	wantLog(t, "a file less", w, 3, 1, 2)
}

// Behind the last number there is no segment; what is open is filled first, and synced.
func TestAppendBehindTheLastNumber(t *testing.T) {
	d := newDisk(t)
	write(t, d, fileOf(lastSegment-1), framesOf("a"), "")
	w := open(t, d, in(lastSegment-1, "a")...)
	for i := range 8 {
		wantAppend(t, w, text(i), lastSegment)
	}
	wantLog(t, "full", w, lastSegment+1, lastSegment-1, lastSegment)
	d.Fuse(2)
	for range 3 {
		wantAppendError(t, "behind the last number", w, "no", api.ErrFull)
		wantFiles(t, "behind the last number", d, content{fileOf(lastSegment - 1), framesOf("a"), ""}, content{fileOf(lastSegment), framesOf(texts(0, 8)...), ""})
		wantLog(t, "behind the last number", w, lastSegment+1, lastSegment-1, lastSegment)
	}
	wantError(t, "Sync of none", w.Sync(), api.OK)
	if d.Off() {
		t.Error("a Create was tried")
	}
	want := slices.Concat(in(lastSegment-1, "a"), in(lastSegment, texts(0, 8)...))
	w = open(t, d, want...)
	wantAppendError(t, "opened anew", w, "no", api.ErrFull)
	wantLog(t, "opened anew", w, lastSegment+1, lastSegment-1, lastSegment)
	wantError(t, "Create, Fuse(2) that one Sync was of", d.Create("x"), api.ErrOff)
	wantAppendError(t, "without power", w, "no", api.ErrFull)
	wantAppendError(t, "no record", w, "", api.ErrArg)
}

// What there is of the next segment's name is no longer there.
func TestAppendInThePlaceOfAnother(t *testing.T) {
	d := newDisk(t)
	w := open(t, d)
	write(t, d, "wal-00000001", framesOf("x", "y"), framesOf("z"))
	wantAppend(t, w, "a", 1)
	wantFiles(t, "Append", d, content{"wal-00000001", "", framesOf("a")})
}

// Whoever removes the open segment makes an Append tell it.
func TestAppendWithoutItsSegment(t *testing.T) {
	d := newDisk(t)
	w := fill(t, d, 3)
	wantOK(t, d.Remove("wal-00000001"))
	wantAppendError(t, "removed", w, "a", api.ErrNone)
	wantError(t, "Sync", w.Sync(), api.ErrNone)
	wantFiles(t, "removed", d)
	wantLog(t, "removed", w, 2)

	d = newDisk(t)
	w = fill(t, d, 8)
	wantOK(t, d.Remove("wal-00000001"))
	for range 2 {
		wantAppendError(t, "a full one removed", w, "a", api.ErrNone)
	}
	wantFiles(t, "a full one removed", d)
}

func TestAppendKeepsNothing(t *testing.T) {
	d := newDisk(t)
	w := open(t, d)
	data := append(make([]byte, 0, 100), "abc"...)
	_, e := w.Append(data)
	wantOK(t, e)
	if got := string(data[:50]); got != "abc"+strings.Repeat("\x00", 47) {
		t.Errorf("the record is %q now", got)
	}
	spoil(data)
	open(t, d, in(1, "abc")...)
}

// P15.4: Sync

func TestSync(t *testing.T) {
	d := newDisk(t)
	w := open(t, d)
	wantOK(t, w.Sync())
	wantFiles(t, "nothing", d)
	for i := range 3 {
		wantAppend(t, w, text(i), 1)
		wantFiles(t, "Append", d, content{"wal-00000001", framesOf(texts(0, i)...), framesOf(text(i))})
		wantOK(t, w.Sync(), w.Sync())
		wantFiles(t, "Sync", d, content{"wal-00000001", framesOf(texts(0, i+1)...), ""})
	}
	wantLog(t, "Sync", w, 2, 1)
	wantAppend(t, w, "a", 1)
}

// Sync is of the open segment, and of nothing else.
func TestSyncOfOne(t *testing.T) {
	d := newDisk(t)
	write(t, d, "wal-00000004", framesOf("a"), framesOf("b"))
	write(t, d, "head", "c", "d")
	w := open(t, d, in(4, "a", "b")...)
	wantOK(t, w.Sync())
	others := []content{{"head", "c", "d"}, {"wal-00000004", framesOf("a"), framesOf("b")}}
	wantFiles(t, "none open", d, others...)
	wantAppend(t, w, "e", 5)
	d.Fuse(2)
	wantOK(t, w.Sync())
	wantFiles(t, "one open", d, append(others, content{"wal-00000005", framesOf("e"), ""})...)
	wantError(t, "Sync, Fuse(2)", w.Sync(), api.ErrOff)
}

func TestSyncWithoutPower(t *testing.T) {
	d := newDisk(t)
	w := fill(t, d, 2)
	d.Fuse(1)
	wantError(t, "Sync, Fuse(1)", w.Sync(), api.ErrOff)
	wantError(t, "Sync", w.Sync(), api.ErrOff)
	wantFiles(t, "Sync", d, content{"wal-00000001", "", framesOf(texts(0, 2)...)})
}

// The eighth record leaves its segment open.
func TestSyncOfAFullSegment(t *testing.T) {
	d := newDisk(t)
	w := fill(t, d, 8)
	wantOK(t, w.Sync())
	wantFiles(t, "Sync", d, content{"wal-00000001", framesOf(texts(0, 8)...), ""})
	wantOK(t, w.Retire(2))
	wantLog(t, "Retire", w, 2, 1)
}

// P15.4: Retire

func TestRetire(t *testing.T) {
	all := []int{1, 2, 3, 4, 5}
	for _, before := range []int{math.MinInt, -1, 0, 1, 2, 3, 4, 5, 6, 7, 1000, 99999999, 100000000, 1 << 32, math.MaxInt} {
		d := newDisk(t)
		w := fill(t, d, 34)
		wantOK(t, w.Retire(before))
		left := all[min(max(before, 1)-1, 4):]
		wantLog(t, fmt.Sprintf("Retire(%d)", before), w, 6, left...)
		wantAppend(t, w, text(34), 5)

		d = newDisk(t)
		fill(t, d, 34)
		w, _, e := wal.Open(d)
		wantOK(t, e, w.Retire(before))
		wantLog(t, fmt.Sprintf("none open, Retire(%d)", before), w, 6, all[min(max(before, 1)-1, 5):]...)
	}
}

// The records of what stays are read, and no others; other files are not touched.
func TestRetireLeavesTheRest(t *testing.T) {
	d := newDisk(t)
	write(t, d, "head", "a", "b")
	write(t, d, "wal-00000000", "c", "d")
	w := fill(t, d, 20)
	wantOK(t, w.Retire(2))
	want := slices.Concat(in(2, texts(8, 16)...), in(3, texts(16, 20)...))
	open(t, d, want...)
	wantFiles(t, "Retire", d, content{"head", "a", "b"}, content{"wal-00000000", "c", "d"}, content{"wal-00000002", framesOf(texts(8, 16)...), ""}, content{"wal-00000003", "", framesOf(texts(16, 20)...)})
}

// The open one stays, though segments of greater numbers go.
func TestRetireOnBothSidesOfTheOpenOne(t *testing.T) {
	d := newDisk(t)
	w := fill(t, d, 10)
	for _, n := range []int{7, 5, 9} {
		write(t, d, fileOf(n), framesOf("x"), "")
	}
	wantOK(t, w.Retire(8))
	wantLog(t, "Retire(8)", w, 3, 2, 9)
	wantAppend(t, w, "a", 2)
}

// The lesser ones go first, wherever the power goes.
func TestRetireWithoutPower(t *testing.T) {
	all := []int{1, 2, 3, 4, 5}
	for n := 1; n <= 5; n++ {
		d := newDisk(t)
		w := fill(t, d, 34)
		d.Fuse(n)
		want := api.ErrOff
		if n == 5 {
			want = api.OK
		}
		wantError(t, fmt.Sprintf("Fuse(%d)", n), w.Retire(6), want)
		wantLog(t, fmt.Sprintf("Fuse(%d)", n), w, 6, all[n-1:]...)
		if n < 5 {
			wantError(t, "without power", w.Retire(6), api.ErrOff)
			wantOK(t, w.Retire(n))
			d.Crash(nil)
			wantOK(t, w.Retire(6))
		}
		wantLog(t, "power on", w, 6, 5)
	}
}

// A number is not given again as long as there is a segment above it; the log itself gives none twice.
func TestRetireKeepsTheNextNumber(t *testing.T) {
	d := newDisk(t)
	w := fill(t, d, 9)
	wantOK(t, w.Retire(3))
	wantLog(t, "Retire", open(t, d, in(2, text(8))...), 3, 2)
	w = open(t, d, in(2, text(8))...)
	wantOK(t, w.Retire(3))
	wantLog(t, "all gone", w, 3)
	wantAppend(t, w, "a", 3)
	wantOK(t, open(t, d, in(3, "a")...).Retire(4))
	wantLog(t, "all gone, opened anew", open(t, d), 1)
}

// P15.3, P15.4: rows of calls

// Rows of calls do to a disk what the chapter's words say, step by step.
func TestRows(t *testing.T) {
	for seed := range 400 {
		l := lottery(seed)
		var steps []byte
		for range 1 + l.below(120) {
			steps = append(steps, byte(l.below(256)))
		}
		doRow(t, steps)
	}
}

func FuzzRows(f *testing.F) {
	for _, x := range []string{"", "aaaaaaaaa", "\x00\x01\x02\x03\x04\x05\x06\x07\x08\x09\x0a"} {
		f.Add([]byte(x))
	}
	f.Fuzz(func(t *testing.T, steps []byte) { doRow(t, steps[:min(len(steps), 200)]) })
}

// doRow does a row of calls on a log, and on the words' own one, each on a disk of its own.
func doRow(t *testing.T, steps []byte) {
	t.Helper()
	d, other := newDisk(t), newDisk(t)
	w, r := open(t, d), &byWords{disk: other, next: 1}
	for i, x := range steps {
		what := fmt.Sprintf("step %d of %v", i, steps)
		n := int(x >> 4)
		switch x % 16 {
		case 0, 1, 2, 3, 4, 5, 6:
			data := strings.Repeat("x", n) + fmt.Sprint(i)
			got, e := w.Append([]byte(data))
			want, ee := r.append(data)
			if got != want || e != ee {
				t.Fatalf("%s: Append tells %d, error %d, want %d, error %d", what, got, e, want, ee)
			}
		case 7, 8:
			wantError(t, what+": Sync", w.Sync(), r.sync())
		case 9, 10:
			wantError(t, what+": Retire", w.Retire(n), r.retire(n))
		case 11:
			d.Quota(d.Used() + 5*n)
			other.Quota(other.Used() + 5*n)
		case 12, 13:
			d.Fuse(n)
			other.Fuse(n)
		case 14:
			d.Crash([]uint16{uint16(3 * n)})
			other.Crash([]uint16{uint16(3 * n)})
		case 15:
			if !d.Off() {
				w, _, _ = wal.Open(d)
				r = byWordsOf(other)
			}
		}
		wantFiles(t, what, d, filesOf(t, other)...)
		wantLog(t, what, w, r.next, segmentsOf(other.Names())...)
	}
}

// What follows

// P15.5, P15.6: whatever is appended, synced and retired, and wherever the power goes.
func TestCrashes(t *testing.T) {
	for seed := range 60 {
		l := lottery(seed)
		h := &history{disk: newDisk(t)}
		h.log = open(t, h.disk)
		for i := range 80 {
			h.step(t, l.below(20), i, &l)
			h.want(t)
		}
	}
}

// history is a log, and what was appended to it and not retired: what a Sync that told OK came behind, and the rest.
type history struct {
	disk          *files.Disk
	log           *wal.Wal
	synced, loose []record
}

// step does one call.
func (h *history) step(t *testing.T, kind, i int, l *lottery) {
	t.Helper()
	switch kind {
	case 0:
		h.disk.Fuse(1 + l.below(8))
	case 1:
		before := l.below(h.log.Next() + 2)
		h.log.Retire(before)
		h.retire(t, before)
	case 2, 3:
		if h.log.Sync() == api.OK {
			h.synced, h.loose = append(h.synced, h.loose...), nil
		}
	default:
		data := strings.Repeat("x", l.below(4)) + fmt.Sprint(i)
		if n, e := h.log.Append([]byte(data)); e == api.OK {
			h.loose = append(h.loose, record{n, data})
		}
	}
	if h.disk.Off() {
		h.reopen(t, l)
	}
}

// retire wants only retired segments to be gone, and takes their records away.
func (h *history) retire(t *testing.T, before int) {
	t.Helper()
	there := segmentsOf(h.disk.Names())
	gone := func(x record) bool {
		is := !slices.Contains(there, x.segment)
		if is && x.segment >= before {
			t.Fatalf("Retire(%d): segment %d is gone", before, x.segment)
		}
		return is
	}
	h.synced, h.loose = slices.DeleteFunc(h.synced, gone), slices.DeleteFunc(h.loose, gone)
}

// reopen is a crash that keeps some bytes, and an Open behind it: what that reads lasts from then on.
func (h *history) reopen(t *testing.T, l *lottery) {
	t.Helper()
	h.disk.Crash([]uint16{uint16(l.below(1 + lossOf(h.disk, nil)))})
	n := h.wantRead(t, h.disk)
	h.synced, h.loose = append(h.synced, h.loose...)[:n], nil
	h.log = open(t, h.disk, h.synced...)
}

// want wants the disk to be as P15.6 says, and what a crash leaves, whatever it keeps, to be as P15.5 says.
func (h *history) want(t *testing.T) {
	t.Helper()
	most := 0
	for _, x := range filesOf(t, h.disk) {
		if x.loose != "" && (most > 0 || x.name != fileOf(h.log.Next()-1)) {
			t.Fatalf("%s has loose bytes", x.name)
		}
		most += len(x.loose)
		if l := recordsOf(x.lasts + x.loose); len(l) > mostRecords {
			t.Fatalf("%s has %d records", x.name, len(l))
		}
	}
	for kept := range most + 1 {
		c := h.disk.Copy()
		c.Crash([]uint16{uint16(kept)})
		if n := h.wantRead(t, c); kept == most && n != len(h.synced)+len(h.loose) {
			t.Fatalf("a crash that keeps all bytes keeps %d records", n)
		}
	}
}

// wantRead wants an Open to read what was synced, and a beginning of the rest, and tells how many records that is.
func (h *history) wantRead(t *testing.T, d *files.Disk) int {
	t.Helper()
	_, got, e := wal.Open(d)
	wantOK(t, e)
	all := slices.Concat(h.synced, h.loose)
	if len(got) < len(h.synced) || len(got) > len(all) {
		t.Fatalf("%d records are read, %d were synced, %d appended", len(got), len(h.synced), len(all))
	}
	wantRecords(t, "a crash", got, all[:len(got)])
	return len(got)
}
