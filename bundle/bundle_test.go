package bundle_test

import (
	"fmt"
	"slices"
	"strings"
	"testing"

	"escritoire/api"
	"escritoire/bundle"
	"escritoire/entry"
)

// What each promise is held against are limits of the tests' own, which are the given ones.
func TestLimits(t *testing.T) {
	if api.Width != most || api.MaxChain != mostCerts || api.MaxCert != mostBytes || api.MaxLeaves/api.Width > lastNumber {
		t.Fatalf("bundles of %d, %d certificates of %d bytes, %d leaves", api.Width, api.MaxChain, api.MaxCert, api.MaxLeaves)
	}
}

// The chapter's examples, as they stand there.
func TestExamples(t *testing.T) {
	for want, x := range map[string]named{"b-000003-07": {3, 7}, "b-999999-16": {999999, 16}} {
		if got, e := bundle.Name(x.number, x.width); e != api.OK || got != want {
			t.Errorf("Name(%v): %q, error %d", x, got, e)
		}
	}
	for _, x := range []named{{1000000, 1}, {0, 0}} {
		if got, e := bundle.Name(x.number, x.width); e != api.ErrArg || got != "" {
			t.Errorf("Name(%v): %q, error %d", x, got, e)
		}
	}
	for _, name := range []string{"b-000003-00", "b-3-07"} {
		if number, width, e := bundle.Parse(name); e != api.ErrForm || number != 0 || width != 0 {
			t.Errorf("Parse(%q): %d, %d, error %d", name, number, width, e)
		}
	}
	wantNoPut(t, "none", nil)
	wantNoTake(t, "none", "")
}

// P17.1: Name

func TestName(t *testing.T) {
	for _, x := range some() {
		if got, e := bundle.Name(x.number, x.width); e != api.OK || got != nameOf(x) {
			t.Errorf("Name(%v): %q, error %d, want %q", x, got, e, nameOf(x))
		}
	}
}

func TestNameOfWhatMayNotBe(t *testing.T) {
	for _, x := range none() {
		if got, e := bundle.Name(x.number, x.width); e != api.ErrArg || got != "" {
			t.Errorf("Name(%v): %q, error %d, want ErrArg alone", x, got, e)
		}
	}
}

// P17.1: Parse

func TestParse(t *testing.T) {
	for _, x := range some() {
		wantParse(t, nameOf(x))
	}
	for width := range 100 {
		wantParse(t, fmt.Sprintf("b-000007-%02d", width))
		wantParse(t, fmt.Sprintf("b-999999-%d", width))
	}
}

func TestParseOfNoName(t *testing.T) {
	for _, name := range []string{
		"", "b", "b-", "b-000003", "b-000003-", "b--07", "b-0000003-07", "b-00003-07", "b-000003-007", "b-000003-7", "b-1000000-07", "b-0-01", "b-999999-1", "-000003-07", "000003-07", "b000003-07", "b-00000307", "b000003-7",
		"B-000003-07", "b0-000003-07", "b1-000003-07", "t-000003-07", "a-000003-07", "bb-000003-07", "b--000003-07", "b-b-000003-07", "b-000003-17", "b-000003-99", "b-000003-100", "b-000003-116", "b_000003_07", "b.000003.07",
		" b-000003-07", "b-000003-07 ", "b-000003-07\n", "b-000003-07\x00", "b-000003-07-", "b-000003--07", "b-000003-07-07", "xb-000003-07", "b-000003-07b-000003-07",
		"b-+00003-07", "b--00003-07", "b-00_003-07", "b-0x0003-07", "b-1e0003-07", "b- 00003-07", "b-000003-+7", "b-000003--7", "b-000003- 7", "b-000003-7_", "b-000003-0x", "b-00000a-07", "b-00000A-10", "b-000003-1a",
		"b-\u0663\u0663\u0663-07", "b-000003-\u0663", "b-00000\uff13-07", "b\u2010000003-07", "t0-000003-07", "t0-000000-01", "wal-00000001", "head", "b-000003-07.new",
		"b-18446744073709551615-07", "b-18446744073709551616-07", "b-18446744073709551619-07", "b-000003-9223372036854775807", "b-000003-9223372036854775808", "b-000003-18446744073709551623", "b-000003--9223372036854775809",
		strings.Repeat("b", 1000), strings.Repeat("b-", 1000), strings.Repeat("-", 1000), strings.Repeat("0", 1000), "b-" + strings.Repeat("0", 1000) + "3-07", "b-000003-" + strings.Repeat("0", 1000) + "7",
	} {
		if _, is := read(name); is {
			t.Fatalf("%q is a name", name)
		}
		wantParse(t, name)
	}
}

// Whatever stands at whichever place of a name, and whatever is missing there, or is more.
func TestParseOfNearlyNames(t *testing.T) {
	for _, name := range []string{"b-000003-07", "b-999999-01", "b-123456-16", "b-000000-10"} {
		for i := range len(name) + 1 {
			wantParse(t, name[:i])
			wantParse(t, name[i:])
			for c := range 256 {
				x := string([]byte{byte(c)})
				wantParse(t, name[:i]+x+name[i:])
				if i < len(name) {
					wantParse(t, name[:i]+x+name[i+1:])
				}
			}
			for j := i; j <= len(name); j++ {
				wantParse(t, name[:i]+name[j:])
			}
		}
	}
}

func FuzzParse(f *testing.F) {
	for _, x := range []string{"", "b-000003-07", "b-999999-16", "b-000003-00", "b-3-07", "b-000003-7", "t0-000003-16"} {
		f.Add(x)
	}
	f.Fuzz(func(t *testing.T, name string) { wantParse(t, name) })
}

// P17.2: Put

func TestPut(t *testing.T) {
	got, e := bundle.Put([]api.Entry{of(258, "ab"), of(1, "a", "bc")})
	want := "\x00\x00\x10" + "\x00\x00\x00\x00\x00\x00\x01\x02" + "\x00\x00\x05" + "\x00\x00\x02ab" +
		"\x00\x00\x14" + "\x00\x00\x00\x00\x00\x00\x00\x01" + "\x00\x00\x09" + "\x00\x00\x01a" + "\x00\x00\x02bc"
	if e != api.OK || string(got) != want {
		t.Errorf("Put of two: % x, error %d, want % x", got, e, want)
	}
	for n := 1; n <= most; n++ {
		wantPut(t, fmt.Sprint(n), entriesOf(100, 100+n))
		wantPut(t, fmt.Sprint(n, " that are one"), slices.Repeat(entriesOf(3, 4), n))
	}
	wantPut(t, "odd ones", odd())
	for i, x := range odd() {
		wantPut(t, fmt.Sprint("odd one ", i), []api.Entry{x})
		wantPut(t, fmt.Sprint("16 of odd one ", i), slices.Repeat([]api.Entry{x}, most))
	}
}

func TestPutOfTooFewAndTooMany(t *testing.T) {
	wantNoPut(t, "nil", nil)
	wantNoPut(t, "none", []api.Entry{})
	for _, n := range []int{17, 18, 32, 33, 256, 257, 1 << 16, 1<<16 + 1} {
		wantNoPut(t, fmt.Sprint(n), slices.Repeat(entriesOf(0, 1), n))
	}
}

// An entry that may not be, wherever it stands.
func TestPutOfWhatMayNotBe(t *testing.T) {
	for what, x := range bad() {
		for n := 1; n <= most+1; n++ {
			for at := range n {
				l := entriesOf(0, n)
				l[at] = x
				wantNoPut(t, fmt.Sprintf("%s, %d of %d", what, at, n), l)
			}
		}
	}
}

func TestPutOnlyReads(t *testing.T) {
	l := append(odd(), entriesOf(0, 5)...)
	kept := copied(l)
	got, _ := bundle.Put(l)
	if !slices.EqualFunc(l, kept, equal) {
		t.Error("the entries are others now")
	}
	spoil(got)
	if !slices.EqualFunc(l, kept, equal) {
		t.Error("the entries are others now that the bytes are")
	}
	got, _ = bundle.Put(l)
	for _, x := range l {
		spoilEntry(x)
	}
	if string(got) != bundleOf(kept...) {
		t.Error("the bytes are others now")
	}
}

// P17.2: Take

func TestTake(t *testing.T) {
	for n := 1; n <= most; n++ {
		wantTake(t, fmt.Sprint(n), bundleOf(entriesOf(100, 100+n)...))
		wantTake(t, fmt.Sprint(n, " that are one"), bundleOf(slices.Repeat(entriesOf(3, 4), n)...))
	}
	for i, x := range odd() {
		wantTake(t, fmt.Sprint("odd one ", i), bundleOf(x))
		wantTake(t, fmt.Sprint("16 of odd one ", i), bundleOf(slices.Repeat([]api.Entry{x}, most)...))
	}
	got, e := bundle.Take([]byte(bundleOf(entriesOf(0, 16)...)))
	if e != api.OK || !slices.EqualFunc(got, entriesOf(0, 16), equal) {
		t.Errorf("Take of 16: %v, error %d", got, e)
	}
}

func TestTakeOfTooFewAndTooMany(t *testing.T) {
	if got, e := bundle.Take(nil); e != api.ErrForm || len(got) != 0 {
		t.Errorf("Take(nil): %v, error %d", got, e)
	}
	for _, n := range []int{17, 18, 32, 33, 256, 257, 10000} {
		wantNoTake(t, fmt.Sprint(n), bundleOf(slices.Repeat(entriesOf(0, 1), n)...))
	}
	wantNoTake(t, "16 and a byte", bundleOf(entriesOf(0, 16)...)+"\x00")
	wantNoTake(t, "16 and an empty vector", bundleOf(entriesOf(0, 16)...)+"\x00\x00\x00")
	wantNoTake(t, "16 and what is no entry", bundleOf(append(entriesOf(0, 16), of(1))...))
}

func TestTakeOfWhatMayNotBe(t *testing.T) {
	for what, x := range bad() {
		for n := 1; n <= most; n++ {
			for at := range n {
				l := entriesOf(0, n)
				l[at] = x
				wantNoTake(t, fmt.Sprintf("%s, %d of %d", what, at, n), bundleOf(l...))
			}
		}
	}
}

func TestTakeOfNoBundle(t *testing.T) {
	one, two := bundleOf(entryOf(1)), bundleOf(entryOf(2))
	record := recordOf(entryOf(1))
	for what, b := range map[string]string{
		"a nought":                         "\x00",
		"an empty vector":                  "\x00\x00\x00",
		"noughts":                          strings.Repeat("\x00", 300),
		"ones":                             strings.Repeat("\xff", 300),
		"a record alone":                   record,
		"a record as a vector of 2":        bytesOf(uint64(len(record)), 2) + record,
		"a record as a vector of 1":        bytesOf(uint64(len(record)), 1) + record,
		"a record as a vector of 4":        bytesOf(uint64(len(record)), 4) + record,
		"a record, its length lowest ends": string([]byte{byte(len(record)), 0, 0}) + record,
		"two records in one vector":        vector(record + record),
		"a record with a byte behind it":   vector(record + "\x00"),
		"a record without its last byte":   vector(record[:len(record)-1]),
		"a record without its first byte":  vector(record[1:]),
		"a record in two vectors":          vector(vector(record)),
		"a bundle as a vector":             vector(one + two),
		"a bundle and a byte":              one + two + "\x00",
		"a byte and a bundle":              "\x00" + one + two,
		"an empty vector and a bundle":     "\x00\x00\x00" + one,
		"an empty vector between":          one + "\x00\x00\x00" + two,
		"a bundle and an empty vector":     one + "\x00\x00\x00",
		"a length of 2^24 - 1":             "\xff\xff\xff" + record,
		"a record that is all noughts":     vector(strings.Repeat("\x00", 15)),
		"a text":                           "b-000003-07",
	} {
		wantNoTake(t, what, b)
	}
}

// Wherever a bundle is cut, it is one of fewer, or none.
func TestTakeOfEachBeginning(t *testing.T) {
	b := bundleOf(of(1, "a"), of(2, "bc", "d"), of(3, long(20)))
	for n := range len(b) {
		wantTake(t, fmt.Sprintf("the first %d bytes", n), b[:n])
		wantTake(t, fmt.Sprintf("all but the first %d bytes", n), b[n:])
	}
}

// Whatever byte is another one, missing, or more.
func TestTakeOfNearlyBundles(t *testing.T) {
	b := bundleOf(of(1, "a"), of(2, "bc", "d"))
	for i := range len(b) + 1 {
		for c := range 256 {
			x := string([]byte{byte(c)})
			wantTake(t, fmt.Sprintf("%d more, at %d", c, i), b[:i]+x+b[i:])
			if i < len(b) {
				wantTake(t, fmt.Sprintf("%d at %d", c, i), b[:i]+x+b[i+1:])
			}
		}
		for j := i; j <= len(b); j++ {
			wantTake(t, fmt.Sprintf("from %d up to %d missing", i, j), b[:i]+b[j:])
		}
	}
}

func TestTakeIsNewMemory(t *testing.T) {
	l := append(odd(), entriesOf(0, 5)...)
	b := append(make([]byte, 0, 1<<14), bundleOf(l...)...)
	got, e := bundle.Take(b)
	if e != api.OK || string(b) != bundleOf(l...) {
		t.Fatalf("Take changes its bytes, or tells error %d", e)
	}
	spoilEntry(got[2])
	if string(b) != bundleOf(l...) {
		t.Error("the bytes are others now")
	}
	spoil(b)
	for i, x := range got {
		if i != 2 && !equal(x, l[i]) {
			t.Errorf("entry %d is another one now", i)
		}
	}
}

// The certificates of a chain share no memory either.
func TestTakeTellsCertificatesApart(t *testing.T) {
	got, _ := bundle.Take([]byte(bundleOf(of(1, "a", "b", "c"), of(2, "d"))))
	_ = append(got[0].Chain[0], "xxxxxxxxxxxx"...)
	spoil(got[0].Chain[1])
	_ = append(got[0].Chain, []byte("x"))
	if string(got[0].Chain[0]) != "a" || string(got[0].Chain[2]) != "c" || !equal(got[1], of(2, "d")) {
		t.Errorf("the others are %v now", got)
	}
}

func FuzzTake(f *testing.F) {
	for _, n := range []int{0, 1, 2, 16, 17} {
		b := bundleOf(entriesOf(0, n)...)
		f.Add([]byte(b))
		f.Add([]byte(b + "x"))
	}
	f.Fuzz(func(t *testing.T, b []byte) {
		wantTake(t, "bytes", string(b))
		if l, e := bundle.Take(b); e == api.OK {
			if again, e := bundle.Put(l); e != api.OK || string(again) != string(b) {
				t.Errorf("Put of Take of %x: %x, error %d", b, again, e)
			}
		}
	})
}

// What follows

// P17.3
func TestNameAndParse(t *testing.T) {
	for _, x := range some() {
		name, _ := bundle.Name(x.number, x.width)
		number, width, e := bundle.Parse(name)
		if e != api.OK || (named{number, width}) != x {
			t.Errorf("Parse of the name of %v: %d, %d, error %d", x, number, width, e)
		}
		if again, e := bundle.Name(number, width); e != api.OK || again != name {
			t.Errorf("Name of what Parse tells of %q: %q, error %d", name, again, e)
		}
	}
}

// P17.3, of each number.
func TestNameAndParseOfEachNumber(t *testing.T) {
	last := ""
	for number := range uint64(lastNumber + 1) {
		x := named{number, 1 + int(number%most)}
		name, e := bundle.Name(x.number, x.width)
		got, width, ee := bundle.Parse(name)
		if e != api.OK || ee != api.OK || (named{got, width}) != x || name <= last {
			t.Fatalf("%v: %q, error %d; %d, %d, error %d", x, name, e, got, width, ee)
		}
		last = name
	}
}

// P17.3
func TestPutAndTake(t *testing.T) {
	l := lottery(1)
	for range 500 {
		entries := drawn(&l, 1+l.below(most))
		b, e := bundle.Put(entries)
		got, ee := bundle.Take(b)
		if e != api.OK || ee != api.OK || !slices.EqualFunc(got, entries, entry.Same) {
			t.Fatalf("Take of Put of %d: errors %d, %d", len(entries), e, ee)
		}
		if again, e := bundle.Put(got); e != api.OK || string(again) != string(b) {
			t.Fatalf("Put of Take of %d: error %d", len(entries), e)
		}
	}
}

// P17.4
func TestTwoBundlesAreOne(t *testing.T) {
	l := lottery(2)
	for n := 1; n <= most; n++ {
		for m := 1; m <= most; m++ {
			a, b := drawn(&l, n), drawn(&l, m)
			one, e := bundle.Put(a)
			two, ee := bundle.Put(b)
			if e != api.OK || ee != api.OK {
				t.Fatalf("Put: errors %d, %d", e, ee)
			}
			both, e := bundle.Put(slices.Concat(a, b))
			got, ee := bundle.Take(slices.Concat(one, two))
			if n+m > most {
				if e != api.ErrArg || ee != api.ErrForm || len(both) != 0 || len(got) != 0 {
					t.Errorf("%d and %d: errors %d, %d", n, m, e, ee)
				}
				continue
			}
			if e != api.OK || ee != api.OK || string(both) != string(one)+string(two) || !slices.EqualFunc(got, slices.Concat(a, b), equal) {
				t.Errorf("%d and %d: %d bytes, %d entries, errors %d, %d", n, m, len(both), len(got), e, ee)
			}
		}
	}
}
