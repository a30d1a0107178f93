package entry_test

import (
	"bytes"
	"slices"
	"strconv"
	"testing"

	"escritoire/api"
	"escritoire/entry"
)

// The document's limits, in numbers of the tests' own.
const (
	mostCerts = 4
	mostBytes = 512
)

// of is an entry of that time and these certificates.
func of(time uint64, certs ...string) api.Entry {
	e := api.Entry{Time: time}
	for _, c := range certs {
		e.Chain = append(e.Chain, []byte(c))
	}
	return e
}

// long is a certificate of so many bytes, which are not all the same.
func long(n int) string {
	out := make([]byte, n)
	for i := range out {
		out[i] = byte(i*7 + i>>8 + n)
	}
	return string(out)
}

// good are entries that may be, with the ends of what may be among them.
func good() []api.Entry {
	return []api.Entry{
		of(258, "ab"),
		of(0, "\x00"),
		of(1, "ab", "c"),
		of(1<<64-1, long(mostBytes)),
		of(1<<63, long(mostBytes-1), long(1)),
		of(7, long(255), long(256), long(257)),
		of(0x0102030405060708, "a", "a", "a", "a"),
		of(1<<64-1, long(mostBytes), long(mostBytes), long(mostBytes), long(mostBytes)),
		of(9, "\x00\x00\x00", "\x00\x00\x01\x00", "\xff\xff\xff"),
		of(1<<32, "x", long(mostBytes), "y", long(mostBytes)),
	}
}

// bad are entries that may not be, by what is wrong with them.
func bad() map[string]api.Entry {
	out := map[string]api.Entry{
		"no certificates":       of(258),
		"an empty list":         {Time: 258, Chain: [][]byte{}},
		"the zero entry":        {},
		"a nil certificate":     {Time: 1, Chain: [][]byte{nil}},
		"five":                  of(1, "a", "b", "c", "d", "e"),
		"six":                   of(1, "a", "b", "c", "d", "e", "f"),
		"five, the last empty":  of(1, "a", "b", "c", "d", ""),
		"very many":             {Time: 1, Chain: make([][]byte, 1<<16)},
		"very many, none empty": {Time: 1, Chain: slices.Repeat([][]byte{[]byte("a")}, 1<<16+1)},
		"one far too long":      of(1, long(1<<16)),
		"a vector's end":        of(1, long(1<<24)),
	}
	for count := 1; count <= mostCerts; count++ {
		for at := range count {
			for what, wrong := range map[string]string{"empty": "", "one byte too long": long(mostBytes + 1)} {
				e := of(5, slices.Repeat([]string{"a"}, count)...)
				e.Chain[at] = []byte(wrong)
				out["of "+strconv.Itoa(count)+", number "+strconv.Itoa(at)+" "+what] = e
			}
		}
	}
	return out
}

// bytesOf is n in so many bytes, worked out by division.
func bytesOf(n uint64, size int) []byte {
	out := make([]byte, size)
	for i := size - 1; i >= 0; i-- {
		out[i] = byte(n % 256)
		n /= 256
	}
	return out
}

// vector is data as a vector of that size.
func vector(data []byte, size int) []byte {
	return append(bytesOf(uint64(len(data)), size), data...)
}

// listOf is a list of certificates, whether these may be or not.
func listOf(certs [][]byte) []byte {
	var all []byte
	for _, c := range certs {
		all = append(all, vector(c, 3)...)
	}
	return vector(all, 3)
}

// recordOf is what the record of e would be, whether it may be or not.
func recordOf(e api.Entry) []byte {
	return append(bytesOf(e.Time, 8), listOf(e.Chain)...)
}

// leafOf is what the leaf of a time and a certificate would be, whether these may be or not.
func leafOf(time uint64, cert []byte) []byte {
	return slices.Concat([]byte{0, 0}, bytesOf(time, 8), []byte{0, 0}, vector(cert, 3), []byte{0, 0})
}

// itemOf is what the item of e would be, whether it may be or not; it has a certificate.
func itemOf(e api.Entry) api.Item {
	return api.Item{Leaf: leafOf(e.Time, e.Chain[0]), Extra: listOf(e.Chain[1:])}
}

// equal holds two entries against each other, by a way of its own.
func equal(a, b api.Entry) bool {
	if a.Time != b.Time || len(a.Chain) != len(b.Chain) {
		return false
	}
	for i := range a.Chain {
		if string(a.Chain[i]) != string(b.Chain[i]) {
			return false
		}
	}
	return true
}

// isZero tells whether e has nothing.
func isZero(e api.Entry) bool {
	return e.Time == 0 && len(e.Chain) == 0
}

// cut takes n's worth of bytes off b's front: false, if there are fewer.
func cut(b []byte, n int) ([]byte, []byte, bool) {
	if len(b) < n {
		return nil, nil, false
	}
	return b[:n], b[n:], true
}

// number is what b is as a number.
func number(b []byte) uint64 {
	var n uint64
	for _, c := range b {
		n = n*256 + uint64(c)
	}
	return n
}

// cutVector takes a vector of that size off b's front.
func cutVector(b []byte, size int) ([]byte, []byte, bool) {
	n, rest, is := cut(b, size)
	if !is {
		return nil, nil, false
	}
	return cut(rest, int(number(n)))
}

// toldList are the certificates of which b is the list, from fewest to most of them.
func toldList(b []byte, fewest, most int) ([][]byte, bool) {
	in, rest, is := cutVector(b, 3)
	if !is || len(rest) > 0 {
		return nil, false
	}
	var out [][]byte
	for len(in) > 0 {
		var c []byte
		if c, in, is = cutVector(in, 3); !is || len(c) < 1 || len(c) > mostBytes {
			return nil, false
		}
		out = append(out, c)
	}
	return out, len(out) >= fewest && len(out) <= most
}

// toldRecord is the entry of which b is the record, told by the chapter's words step by step.
func toldRecord(b []byte) (api.Entry, bool) {
	time, rest, is := cut(b, 8)
	if !is {
		return api.Entry{}, false
	}
	certs, is := toldList(rest, 1, mostCerts)
	return api.Entry{Time: number(time), Chain: certs}, is
}

// toldItem is the entry of which i is the item, told by the chapter's words step by step.
func toldItem(i api.Item) (api.Entry, bool) {
	ahead, rest, is := cut(i.Leaf, 12)
	if !is || !bytes.Equal(ahead[:2], []byte{0, 0}) || !bytes.Equal(ahead[10:], []byte{0, 0}) {
		return api.Entry{}, false
	}
	cert, rest, is := cutVector(rest, 3)
	if !is || len(cert) < 1 || len(cert) > mostBytes || !bytes.Equal(rest, []byte{0, 0}) {
		return api.Entry{}, false
	}
	certs, is := toldList(i.Extra, 0, mostCerts-1)
	return api.Entry{Time: number(ahead[2:10]), Chain: append([][]byte{cert}, certs...)}, is
}

// wantRecordAsTold wants of b what the chapter's words tell.
func wantRecordAsTold(t *testing.T, what string, b []byte) {
	t.Helper()
	want, is := toldRecord(b)
	got, err := entry.TakeRecord(b)
	if is && (err != api.OK || !equal(got, want)) {
		t.Errorf("TakeRecord of %s, % .60x: got %v, error %d, want %v", what, b, shown(got), err, shown(want))
	}
	if !is && (err != api.ErrForm || !isZero(got)) {
		t.Errorf("TakeRecord of %s, % .60x: got %v, error %d, want nothing, error %d", what, b, shown(got), err, api.ErrForm)
	}
}

// wantItemAsTold wants of i what the chapter's words tell.
func wantItemAsTold(t *testing.T, what string, i api.Item) {
	t.Helper()
	want, is := toldItem(i)
	got, err := entry.TakeItem(i)
	if is && (err != api.OK || !equal(got, want)) {
		t.Errorf("TakeItem of %s, % .60x, % .60x: got %v, error %d, want %v", what, i.Leaf, i.Extra, shown(got), err, shown(want))
	}
	if !is && (err != api.ErrForm || !isZero(got)) {
		t.Errorf("TakeItem of %s, % .60x, % .60x: got %v, error %d, want nothing, error %d", what, i.Leaf, i.Extra, shown(got), err, api.ErrForm)
	}
}

// wantNoRecord wants b to be the record of no entry that may be.
func wantNoRecord(t *testing.T, what string, b []byte) {
	t.Helper()
	if _, is := toldRecord(b); is {
		t.Fatalf("the test's own words tell an entry of %s", what)
	}
	wantRecordAsTold(t, what, b)
}

// wantNoItem wants i to be the item of no entry that may be.
func wantNoItem(t *testing.T, what string, i api.Item) {
	t.Helper()
	if _, is := toldItem(i); is {
		t.Fatalf("the test's own words tell an entry of %s", what)
	}
	wantItemAsTold(t, what, i)
}

func wantBytes(t *testing.T, what string, got []byte, err api.Errno, want []byte) {
	t.Helper()
	if err != api.OK || !bytes.Equal(got, want) {
		t.Errorf("%s: got % .60x, error %d, want % .60x", what, got, err, want)
	}
}

func wantNone(t *testing.T, what string, got []byte, err, want api.Errno) {
	t.Helper()
	if err != want || len(got) != 0 {
		t.Errorf("%s: got % .60x, error %d, want nothing, error %d", what, got, err, want)
	}
}

// shown is e as a remark tells it.
func shown(e api.Entry) string {
	out := strconv.FormatUint(e.Time, 10)
	for _, c := range e.Chain[:min(len(e.Chain), 10)] {
		out += " " + strconv.Quote(string(c[:min(len(c), 20)])) + "(" + strconv.Itoa(len(c)) + ")"
	}
	return out
}

// copied is e in memory of its own.
func copied(e api.Entry) api.Entry {
	e.Chain = slices.Clone(e.Chain)
	for i, c := range e.Chain {
		e.Chain[i] = bytes.Clone(c)
	}
	return e
}

// spoil writes to all of b, the room behind it included.
func spoil(b []byte) {
	b = b[:cap(b)]
	for i := range b {
		b[i] ^= 0x55
	}
}

// spoilEntry writes to all that e has in lists, the room behind them included.
func spoilEntry(e api.Entry) {
	for _, c := range e.Chain {
		spoil(c)
	}
	chain := e.Chain[:cap(e.Chain)]
	for i := range chain {
		chain[i] = []byte("spoilt")
	}
}

// roomy is e whose lists have room behind them, which an append in place would write to.
func roomy(e api.Entry) api.Entry {
	chain := make([][]byte, 0, len(e.Chain)+8)
	for _, c := range e.Chain {
		chain = append(chain, append(make([]byte, 0, len(c)+64), c...))
	}
	e.Chain = chain
	return e
}

// random is a number below that of a seed, by a rule of its own.
func random(seed *uint64, below int) int {
	*seed = *seed*6364136223846793005 + 1442695040888963407
	return int((*seed >> 33) % uint64(below))
}

// randomEntry is an entry of a seed that may be, most of its certificates being short.
func randomEntry(seed *uint64) api.Entry {
	e := api.Entry{Time: uint64(random(seed, 1<<31)) << random(seed, 34)}
	for range 1 + random(seed, mostCerts) {
		n := 1 + random(seed, 5)
		if random(seed, 4) == 0 {
			n = 1 + random(seed, mostBytes)
		}
		c := make([]byte, n)
		for i := range c {
			c[i] = byte(random(seed, 256) >> random(seed, 8))
		}
		e.Chain = append(e.Chain, c)
	}
	return e
}

// changed is b with a few bytes other, gone, or more, by a seed.
func changed(b []byte, seed *uint64) []byte {
	b = bytes.Clone(b)
	for range 1 + random(seed, 3) {
		at := random(seed, len(b)+1)
		switch random(seed, 4) {
		case 0:
			b = b[:at]
		case 1:
			b = slices.Insert(b, at, byte(random(seed, 256)>>random(seed, 8)))
		case 2:
			if at < len(b) {
				b = slices.Delete(b, at, at+1)
			}
		default:
			if at < len(b) {
				b[at] ^= 1 << random(seed, 8)
			}
		}
	}
	return b
}
