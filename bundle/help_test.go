package bundle_test

import (
	"bytes"
	"fmt"
	"math"
	"regexp"
	"slices"
	"strconv"
	"strings"
	"testing"

	"escritoire/api"
	"escritoire/bundle"
)

// The document's limits, in numbers of the tests' own.
const (
	most       = 16
	lastNumber = 999999
	mostCerts  = 4
	mostBytes  = 512
)

// named is what a name tells.
type named struct {
	number uint64
	width  int
}

// form is that of a name: the numbers are looked at beside it.
var form = regexp.MustCompile(`\Ab-([0-9]{6})-([0-9]{2})\z`)

// read tells what a name tells, if it is one.
func read(name string) (named, bool) {
	m := form.FindStringSubmatch(name)
	if m == nil {
		return named{}, false
	}
	number, _ := strconv.Atoi(m[1])
	width, _ := strconv.Atoi(m[2])
	if width < 1 || width > most {
		return named{}, false
	}
	return named{uint64(number), width}, true
}

// nameOf is the name of what may be.
func nameOf(x named) string {
	return fmt.Sprintf("b-%06d-%02d", x.number, x.width)
}

// some are those that may be: all widths, and numbers at and around where they get longer.
func some() []named {
	var out []named
	for _, number := range []uint64{0, 1, 2, 9, 10, 11, 15, 16, 99, 100, 255, 256, 999, 1000, 4096, 9999, 10000, 65535, 65536, 99999, 100000, 123456, 654321, 999998, lastNumber} {
		for width := 1; width <= most; width++ {
			out = append(out, named{number, width})
		}
	}
	return out
}

// none are those of which one number may not be.
func none() []named {
	var out []named
	for _, number := range []uint64{1000000, 1000001, 1999999, 9999999, 10000000, 1 << 20, 1 << 32, 1<<32 + 1, 1 << 63, math.MaxUint64} {
		out = append(out, named{number, 1}, named{number, 16}, named{number, 0}, named{number, 17})
	}
	for _, width := range []int{0, -1, -2, -16, 17, 18, 32, 99, 100, 101, 256, 257, 1<<32 + 1, math.MaxInt, math.MinInt, math.MinInt + 1} {
		out = append(out, named{0, width}, named{7, width}, named{lastNumber, width})
	}
	return out
}

func wantParse(t *testing.T, name string) {
	t.Helper()
	number, width, e := bundle.Parse(name)
	got := named{number, width}
	want, is := read(name)
	if is && (e != api.OK || got != want) || !is && (e != api.ErrForm || got != named{}) {
		t.Errorf("Parse(%.100q): %v, error %d, want %v, %v", name, got, e, want, is)
	}
}

// of is an entry of that time and these certificates.
func of(time uint64, certs ...string) api.Entry {
	x := api.Entry{Time: time}
	for _, c := range certs {
		x.Chain = append(x.Chain, []byte(c))
	}
	return x
}

// long is a certificate of so many bytes, which are not all the same.
func long(n int) string {
	out := make([]byte, n)
	for i := range out {
		out[i] = byte(i*7 + i>>8 + n)
	}
	return string(out)
}

// entryOf is an entry of its own for each number, of one to four certificates.
func entryOf(n int) api.Entry {
	x := of(uint64(n)<<40, "certificate "+strconv.Itoa(n))
	for i := range n % mostCerts {
		x.Chain = append(x.Chain, []byte(long(1+(n+i)%20)))
	}
	return x
}

// entriesOf are those of the numbers from one up to another, without that.
func entriesOf(from, to int) []api.Entry {
	var out []api.Entry
	for n := from; n < to; n++ {
		out = append(out, entryOf(n))
	}
	return out
}

// odd are entries at the ends of what may be.
func odd() []api.Entry {
	return []api.Entry{
		of(0, "\x00"),
		of(1<<64-1, long(mostBytes)),
		of(1<<63, long(mostBytes-1), long(1)),
		of(7, long(255), long(256), long(257)),
		of(0x0102030405060708, "a", "a", "a", "a"),
		of(1<<64-1, long(mostBytes), long(mostBytes), long(mostBytes), long(mostBytes)),
		of(9, "\x00\x00\x00", "\x00\x00\x01\x00", "\xff\xff\xff"),
	}
}

// bad are entries that may not be, by what is wrong with them.
func bad() map[string]api.Entry {
	return map[string]api.Entry{
		"the zero entry":            {},
		"no certificates":           of(258),
		"an empty list":             {Time: 258, Chain: [][]byte{}},
		"a nil certificate":         {Time: 1, Chain: [][]byte{nil}},
		"an empty certificate":      of(1, ""),
		"an empty one at the end":   of(1, "a", "b", "c", ""),
		"five certificates":         of(1, "a", "b", "c", "d", "e"),
		"a byte too many":           of(1, long(mostBytes+1)),
		"a byte too many, the last": of(1, "a", "b", "c", long(mostBytes+1)),
		"far too many bytes":        of(1, long(1<<16)),
	}
}

// bytesOf is n in so many bytes, worked out by division.
func bytesOf(n uint64, size int) string {
	out := make([]byte, size)
	for i := size - 1; i >= 0; i-- {
		out[i] = byte(n % 256)
		n /= 256
	}
	return string(out)
}

// vector is data as a vector of 3.
func vector(data string) string {
	return bytesOf(uint64(len(data)), 3) + data
}

// recordOf is what the record of an entry would be, whether it may be or not.
func recordOf(x api.Entry) string {
	var all strings.Builder
	for _, c := range x.Chain {
		all.WriteString(vector(string(c)))
	}
	return bytesOf(x.Time, 8) + vector(all.String())
}

// bundleOf is what the bytes of these entries would be, whether they may be or not.
func bundleOf(l ...api.Entry) string {
	var out strings.Builder
	for _, x := range l {
		out.WriteString(vector(recordOf(x)))
	}
	return out.String()
}

// cut takes a vector of 3 off b's front.
func cut(b string) (string, string, bool) {
	if len(b) < 3 {
		return "", "", false
	}
	n := int(b[0])<<16 + int(b[1])<<8 + int(b[2])
	if len(b)-3 < n {
		return "", "", false
	}
	return b[3 : 3+n], b[3+n:], true
}

// toldVectors are the vectors of 3 of which b consists.
func toldVectors(b string) ([]string, bool) {
	var out []string
	for b != "" {
		data, rest, is := cut(b)
		if !is {
			return nil, false
		}
		out, b = append(out, data), rest
	}
	return out, true
}

// toldRecord is the entry of which b is the record.
func toldRecord(b string) (api.Entry, bool) {
	if len(b) < 8 {
		return api.Entry{}, false
	}
	var x api.Entry
	for i := range 8 {
		x.Time = x.Time*256 + uint64(b[i])
	}
	in, rest, is := cut(b[8:])
	certs, are := toldVectors(in)
	if !is || !are || rest != "" || len(certs) < 1 || len(certs) > mostCerts {
		return api.Entry{}, false
	}
	for _, c := range certs {
		if len(c) < 1 || len(c) > mostBytes {
			return api.Entry{}, false
		}
		x.Chain = append(x.Chain, []byte(c))
	}
	return x, true
}

// toldBundle are the entries of the bundle that b is, told by the chapter's words step by step.
func toldBundle(b string) ([]api.Entry, bool) {
	records, is := toldVectors(b)
	if !is || len(records) < 1 || len(records) > most {
		return nil, false
	}
	var out []api.Entry
	for _, record := range records {
		x, is := toldRecord(record)
		if !is {
			return nil, false
		}
		out = append(out, x)
	}
	return out, true
}

// equal holds two entries against each other, by a way of its own.
func equal(a, b api.Entry) bool {
	return recordOf(a) == recordOf(b)
}

// wantPut wants the bytes of entries that may be.
func wantPut(t *testing.T, what string, l []api.Entry) {
	t.Helper()
	if got, e := bundle.Put(l); e != api.OK || string(got) != bundleOf(l...) {
		t.Errorf("Put of %s: % .60x, error %d, want % .60x", what, got, e, bundleOf(l...))
	}
}

// wantNoPut wants Put to tell ErrArg alone.
func wantNoPut(t *testing.T, what string, l []api.Entry) {
	t.Helper()
	if got, e := bundle.Put(l); e != api.ErrArg || len(got) != 0 {
		t.Errorf("Put of %s: % .60x, error %d, want ErrArg alone", what, got, e)
	}
}

// wantTake wants of b what the chapter's words tell.
func wantTake(t *testing.T, what, b string) {
	t.Helper()
	want, is := toldBundle(b)
	got, e := bundle.Take([]byte(b))
	if is && (e != api.OK || !slices.EqualFunc(got, want, equal)) {
		t.Errorf("Take of %s, % .60x: %v, error %d, want %v", what, b, got, e, want)
	}
	if !is && (e != api.ErrForm || len(got) != 0) {
		t.Errorf("Take of %s, % .60x: %v, error %d, want ErrForm alone", what, b, got, e)
	}
}

// wantNoTake wants b to be the bytes of no bundle.
func wantNoTake(t *testing.T, what, b string) {
	t.Helper()
	if _, is := toldBundle(b); is {
		t.Fatalf("the test's own words tell entries of %s", what)
	}
	wantTake(t, what, b)
}

// copied are entries in memory of their own.
func copied(l []api.Entry) []api.Entry {
	l = slices.Clone(l)
	for i := range l {
		l[i].Chain = slices.Clone(l[i].Chain)
		for j, c := range l[i].Chain {
			l[i].Chain[j] = bytes.Clone(c)
		}
	}
	return l
}

// spoil changes each byte, up to where the room ends: whoever shares memory with b is found by that.
func spoil(b []byte) {
	b = b[:cap(b)]
	for i := range b {
		b[i] ^= 0xff
	}
}

// spoilEntry does so to what an entry has.
func spoilEntry(x api.Entry) {
	for _, c := range x.Chain {
		spoil(c)
	}
	chain := x.Chain[:cap(x.Chain)]
	for i := range chain {
		chain[i] = []byte("spoilt")
	}
}

// lottery tells numbers of a seed, by a rule of its own.
type lottery uint64

// below is a number from 0 on below n.
func (l *lottery) below(n int) int {
	*l = *l*6364136223846793005 + 1442695040888963407
	return int(uint64(*l)>>33) % n
}

// drawn are so many entries of a lottery, that may be.
func drawn(l *lottery, count int) []api.Entry {
	var out []api.Entry
	for range count {
		x := api.Entry{Time: uint64(l.below(1<<31)) << l.below(34)}
		for range 1 + l.below(mostCerts) {
			x.Chain = append(x.Chain, []byte(long(1+l.below(1+l.below(mostBytes)))))
		}
		out = append(out, x)
	}
	return out
}
