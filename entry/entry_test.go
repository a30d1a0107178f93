package entry_test

import (
	"bytes"
	"math"
	"slices"
	"strconv"
	"testing"

	"escritoire/api"
	"escritoire/entry"
)

// P5.1: May, Same

func TestMay(t *testing.T) {
	for _, e := range good() {
		if !entry.May(e) {
			t.Errorf("May(%s): false", shown(e))
		}
	}
	for what, e := range bad() {
		if entry.May(e) {
			t.Errorf("May of an entry with %s: true", what)
		}
	}
}

// The Time does not matter, nor do the certificates' bytes.
func TestMayHangsOnLengthsAlone(t *testing.T) {
	for _, time := range []uint64{0, 1, 1 << 63, math.MaxUint64} {
		for count := 0; count <= mostCerts+1; count++ {
			for _, n := range []int{0, 1, 2, mostBytes - 1, mostBytes, mostBytes + 1} {
				want := count >= 1 && count <= mostCerts && n >= 1 && n <= mostBytes
				for _, c := range []string{long(n), string(make([]byte, n))} {
					if got := entry.May(of(time, slices.Repeat([]string{c}, count)...)); got != want {
						t.Errorf("May of %d certificates of %d bytes at %d: %v", count, n, time, got)
					}
				}
			}
		}
	}
}

func TestSame(t *testing.T) {
	all := good()
	for _, e := range bad() {
		all = append(all, e)
	}
	for _, a := range all {
		for _, b := range all {
			if got, want := entry.Same(a, b), equal(a, b); got != want {
				t.Errorf("Same(%s, %s): %v", shown(a), shown(b), got)
			}
		}
		if !entry.Same(a, copied(a)) || !entry.Same(roomy(a), a) {
			t.Errorf("Same(%s, a copy): false", shown(a))
		}
	}
}

func TestSameOfAlmostTheSame(t *testing.T) {
	for _, pair := range [][2]api.Entry{
		{of(1, "a"), of(2, "a")},
		{of(1, "a"), of(1+1<<32, "a")},
		{of(1, "a"), of(1+1<<63, "a")},
		{of(1, "a"), of(1, "b")},
		{of(1, "a"), of(1, "A")},
		{of(1, "a"), of(1, "a\x00")},
		{of(1, "a"), of(1, "a", "")},
		{of(1, "a"), of(1, "a", "a")},
		{of(1, "a", "b"), of(1, "b", "a")},
		{of(1, "a", "b", "c"), of(1, "a", "b", "d")},
		{of(1, "a", "b", "c"), of(1, "a", "x", "c")},
		{of(1, "ab", "c"), of(1, "a", "bc")},
		{of(1, "abc"), of(1, "a", "bc")},
		{of(1, "a", "b", "c", "d", "e"), of(1, "a", "b", "c", "d", "f")},
		{of(1, long(600)+"a"), of(1, long(600)+"b")},
		{of(1), of(2)},
		{of(1), of(1, "")},
		{of(1, ""), of(1, "", "")},
	} {
		if entry.Same(pair[0], pair[1]) || entry.Same(pair[1], pair[0]) {
			t.Errorf("Same(%s, %s): true", shown(pair[0]), shown(pair[1]))
		}
	}
}

// nil and empty lists are one (R4).
func TestSameOfNilAndEmpty(t *testing.T) {
	for _, pair := range [][2]api.Entry{
		{{Time: 1}, {Time: 1, Chain: [][]byte{}}},
		{{Time: 1, Chain: [][]byte{nil}}, {Time: 1, Chain: [][]byte{{}}}},
		{{Chain: [][]byte{[]byte("a"), nil}}, {Chain: [][]byte{[]byte("a"), {}}}},
	} {
		if !entry.Same(pair[0], pair[1]) || !entry.Same(pair[1], pair[0]) {
			t.Errorf("Same(%s, %s): false", shown(pair[0]), shown(pair[1]))
		}
	}
}

// P5.1: Leaf, Extra, Record, Item, SignedSCT

func TestDocumentsExamples(t *testing.T) {
	got, err := entry.Leaf(of(258, "ab"))
	wantBytes(t, "Leaf", got, err, []byte{0, 0, 0, 0, 0, 0, 0, 0, 1, 2, 0, 0, 0, 0, 2, 0x61, 0x62, 0, 0})
	got, err = entry.Extra(of(258, "ab"))
	wantBytes(t, "Extra", got, err, []byte{0, 0, 0})
	got, err = entry.Extra(of(258, "ab", "c"))
	wantBytes(t, "Extra of two", got, err, []byte{0, 0, 4, 0, 0, 1, 0x63})
	head := entry.SignedHead(api.Head{Size: 1, Time: 2})
	if len(head) != 50 || !bytes.HasPrefix(head, []byte{0, 1}) {
		t.Errorf("SignedHead: % x", head)
	}
	got, err = entry.Leaf(api.Entry{Time: 258})
	wantNone(t, "Leaf of no certificates", got, err, api.ErrArg)
	if e, err := entry.TakeRecord(nil); err != api.ErrForm || !isZero(e) {
		t.Errorf("TakeRecord of none: %s, error %d", shown(e), err)
	}
}

func TestBytesByHand(t *testing.T) {
	e := of(0x0102030405060708, "ab", "c", "def")
	got, err := entry.Leaf(e)
	wantBytes(t, "Leaf", got, err, []byte("\x00\x00\x01\x02\x03\x04\x05\x06\x07\x08\x00\x00\x00\x00\x02ab\x00\x00"))
	got, err = entry.SignedSCT(e)
	wantBytes(t, "SignedSCT", got, err, []byte("\x00\x00\x01\x02\x03\x04\x05\x06\x07\x08\x00\x00\x00\x00\x02ab\x00\x00"))
	got, err = entry.Extra(e)
	wantBytes(t, "Extra", got, err, []byte("\x00\x00\x0a\x00\x00\x01c\x00\x00\x03def"))
	got, err = entry.Record(e)
	wantBytes(t, "Record", got, err, []byte("\x01\x02\x03\x04\x05\x06\x07\x08\x00\x00\x0f\x00\x00\x02ab\x00\x00\x01c\x00\x00\x03def"))
	got, err = entry.Record(of(0, "a"))
	wantBytes(t, "Record of one", got, err, []byte("\x00\x00\x00\x00\x00\x00\x00\x00\x00\x00\x04\x00\x00\x01a"))
}

func TestBytesOfEntriesThatMayBe(t *testing.T) {
	for _, e := range good() {
		leaf, err := entry.Leaf(e)
		wantBytes(t, "Leaf of "+shown(e), leaf, err, leafOf(e.Time, e.Chain[0]))
		extra, err := entry.Extra(e)
		wantBytes(t, "Extra of "+shown(e), extra, err, listOf(e.Chain[1:]))
		record, err := entry.Record(e)
		wantBytes(t, "Record of "+shown(e), record, err, recordOf(e))
		signed, err := entry.SignedSCT(e)
		wantBytes(t, "SignedSCT of "+shown(e), signed, err, leafOf(e.Time, e.Chain[0]))
		item, err := entry.Item(e)
		wantBytes(t, "Item's leaf of "+shown(e), item.Leaf, err, leaf)
		wantBytes(t, "Item's extra bytes of "+shown(e), item.Extra, err, extra)
	}
}

func TestNoBytesOfEntriesThatMayNotBe(t *testing.T) {
	for what, e := range bad() {
		got, err := entry.Leaf(e)
		wantNone(t, "Leaf, "+what, got, err, api.ErrArg)
		got, err = entry.Extra(e)
		wantNone(t, "Extra, "+what, got, err, api.ErrArg)
		got, err = entry.Record(e)
		wantNone(t, "Record, "+what, got, err, api.ErrArg)
		got, err = entry.SignedSCT(e)
		wantNone(t, "SignedSCT, "+what, got, err, api.ErrArg)
		item, err := entry.Item(e)
		wantNone(t, "Item's leaf, "+what, item.Leaf, err, api.ErrArg)
		wantNone(t, "Item's extra bytes, "+what, item.Extra, err, api.ErrArg)
	}
}

// P5.1: SignedHead

func TestSignedHead(t *testing.T) {
	numbers := []uint64{0, 1, 2, 0xff, 0x100, 0x0102030405060708, api.MaxLeaves, 1 << 63, math.MaxUint64}
	var root api.Digest
	for i := range root {
		root[i] = byte(i + 1)
	}
	for _, r := range []api.Digest{{}, root, {31: 0xff}} {
		for _, time := range numbers {
			for _, size := range numbers {
				h := api.Head{Size: size, Time: time, Root: r}
				want := slices.Concat([]byte{0, 1}, bytesOf(time, 8), bytesOf(size, 8), r[:])
				if got := entry.SignedHead(h); !bytes.Equal(got, want) {
					t.Errorf("SignedHead of size %d, time %d: % x, want % x", size, time, got, want)
				}
			}
		}
	}
}

// What is signed does not hang on the signature that is there.
func TestSignedHeadWithoutSignature(t *testing.T) {
	h := api.Head{Size: 3, Time: 4}
	want := entry.SignedHead(h)
	for i := range h.Sig {
		h.Sig[i] = byte(i + 1)
	}
	if got := entry.SignedHead(h); !bytes.Equal(got, want) {
		t.Errorf("SignedHead with a signature: % x, want % x", got, want)
	}
}

// P5.2: TakeRecord

func TestTakeRecord(t *testing.T) {
	for _, e := range good() {
		b := recordOf(e)
		if got, err := entry.TakeRecord(b); err != api.OK || !equal(got, e) {
			t.Errorf("TakeRecord: got %s, error %d, want %s", shown(got), err, shown(e))
		}
	}
}

func TestTakeRecordOfEntriesThatMayNotBe(t *testing.T) {
	for what, e := range bad() {
		wantNoRecord(t, what, recordOf(e))
	}
}

func TestTakeRecordOfEveryBeginning(t *testing.T) {
	for _, e := range good() {
		b := recordOf(e)
		for n := range b {
			wantNoRecord(t, "a beginning", b[:n])
		}
		for _, more := range [][]byte{{0}, {0, 0, 0}, {0, 0, 1, 'a'}, b} {
			wantNoRecord(t, "a record and more", append(bytes.Clone(b), more...))
		}
	}
}

// The lists' own numbers tell too much, too little, or nothing.
func TestTakeRecordOfWrongLists(t *testing.T) {
	time := bytesOf(5, 8)
	for what, list := range map[string]string{
		"no list":                               "",
		"half a number":                         "\x00\x00",
		"an empty list":                         "\x00\x00\x00",
		"an empty certificate":                  "\x00\x00\x03\x00\x00\x00",
		"an empty one behind another":           "\x00\x00\x07\x00\x00\x01a\x00\x00\x00",
		"an empty one ahead of another":         "\x00\x00\x07\x00\x00\x00\x00\x00\x01a",
		"a list that is too long by one":        "\x00\x00\x05\x00\x00\x01a",
		"a list that is too short by one":       "\x00\x00\x03\x00\x00\x01a",
		"a list that cuts a number":             "\x00\x00\x02\x00\x00\x01a",
		"a certificate beyond its list":         "\x00\x00\x04\x00\x00\x02a",
		"a certificate beyond its list, though": "\x00\x00\x04\x00\x00\x02ab",
		"a byte left in the list":               "\x00\x00\x05\x00\x00\x01ab",
		"a number left in the list":             "\x00\x00\x06\x00\x00\x01a\x00\x00",
		"a byte behind the list":                "\x00\x00\x04\x00\x00\x01ab",
		"the greatest list":                     "\xff\xff\xff\x00\x00\x01a",
		"the greatest certificate":              "\x00\x00\x04\xff\xff\xffa",
		"sizes of two":                          "\x00\x03\x00\x01a",
		"certificates without a list":           "\x00\x00\x01a",
		"the lowest byte first":                 "\x04\x00\x00\x01\x00\x00a",
	} {
		wantNoRecord(t, what, append(bytes.Clone(time), list...))
	}
	wantNoRecord(t, "a list without a time", listOf(of(5, "a").Chain))
}

// A list may have far more certificates than a chain, and the fifth one may be wrong or right.
func TestTakeRecordOfMoreThanAChain(t *testing.T) {
	for _, count := range []int{mostCerts + 1, mostCerts + 2, 256, 1 << 12, 1 << 16, 1 << 21} {
		wantNoRecord(t, strconv.Itoa(count)+" certificates", recordOf(api.Entry{Time: 1, Chain: slices.Repeat([][]byte{[]byte("a")}, count)}))
	}
	four := of(1, "a", "b", "c", "d")
	for what, more := range map[string]string{"another": "\x00\x00\x01e", "an empty one": "\x00\x00\x00", "a byte": "\x00", "one that is cut": "\x00\x00\x02e"} {
		var in []byte
		for _, c := range four.Chain {
			in = append(in, vector(c, 3)...)
		}
		wantNoRecord(t, "four and "+what, append(bytesOf(1, 8), vector(append(in, more...), 3)...))
	}
	wantNoRecord(t, "many empty ones", append(bytesOf(1, 8), vector(make([]byte, 3<<20), 3)...))
}

func TestTakeRecordWithAnyByteChanged(t *testing.T) {
	for _, e := range []api.Entry{of(258, "ab"), of(7, "ab", "c"), of(1, "a", "b", "c", "d")} {
		b := recordOf(e)
		for at := range b {
			for c := range 256 {
				x := bytes.Clone(b)
				x[at] = byte(c)
				wantRecordAsTold(t, "a changed byte", x)
			}
		}
	}
}

func TestTakeRecordOfWhatever(t *testing.T) {
	var taken int
	for seed := range uint64(20000) {
		b := changed(recordOf(randomEntry(&seed)), &seed)
		wantRecordAsTold(t, "changed bytes", b)
		if _, is := toldRecord(b); is {
			taken++
		}
	}
	if taken < 100 {
		t.Errorf("of the changed bytes only %d are records", taken)
	}
}

// P5.2: TakeItem

func TestTakeItem(t *testing.T) {
	for _, e := range good() {
		if got, err := entry.TakeItem(itemOf(e)); err != api.OK || !equal(got, e) {
			t.Errorf("TakeItem: got %s, error %d, want %s", shown(got), err, shown(e))
		}
	}
}

func TestTakeItemOfEntriesThatMayNotBe(t *testing.T) {
	for what, e := range bad() {
		if len(e.Chain) > 0 && len(e.Chain[0]) < 1<<24 {
			wantNoItem(t, what, itemOf(e))
		}
	}
	wantNoItem(t, "nothing", api.Item{})
	good := itemOf(of(1, "a"))
	wantNoItem(t, "no leaf", api.Item{Extra: good.Extra})
	wantNoItem(t, "no extra bytes", api.Item{Leaf: good.Leaf})
	wantNoItem(t, "the two changed for each other", api.Item{Leaf: good.Extra, Extra: good.Leaf})
}

func TestTakeItemOfEveryBeginning(t *testing.T) {
	for _, e := range good() {
		i := itemOf(e)
		for n := range i.Leaf {
			wantNoItem(t, "a beginning of the leaf", api.Item{Leaf: i.Leaf[:n], Extra: i.Extra})
		}
		for n := range i.Extra {
			wantNoItem(t, "a beginning of the extra bytes", api.Item{Leaf: i.Leaf, Extra: i.Extra[:n]})
		}
		for _, more := range [][]byte{{0}, {0, 0}, {0, 0, 1, 'a'}} {
			wantNoItem(t, "a leaf and more", api.Item{Leaf: append(bytes.Clone(i.Leaf), more...), Extra: i.Extra})
			wantNoItem(t, "extra bytes and more", api.Item{Leaf: i.Leaf, Extra: append(bytes.Clone(i.Extra), more...)})
		}
	}
}

// The numbers that are the same in all leaves, each of them changed alone.
func TestTakeItemOfOtherKinds(t *testing.T) {
	i := itemOf(of(5, "ab", "c"))
	n := len(i.Leaf)
	for what, at := range map[string]int{"version": 0, "kind of leaf": 1, "kind of entry, high": 10, "kind of entry, low": 11, "extensions, high": n - 2, "extensions, low": n - 1} {
		for _, c := range []byte{1, 2, 0x80, 0xff} {
			leaf := bytes.Clone(i.Leaf)
			leaf[at] = c
			wantNoItem(t, "another "+what, api.Item{Leaf: leaf, Extra: i.Extra})
		}
	}
	wantNoItem(t, "extensions", api.Item{Leaf: append(bytes.Clone(i.Leaf[:n-2]), 0, 1, 'x'), Extra: i.Extra})
}

func TestTakeItemOfAFullRest(t *testing.T) {
	leaf := leafOf(1, []byte("a"))
	rest := of(0, "b", "c", "d", "e", "f").Chain
	for n := range rest {
		i := api.Item{Leaf: leaf, Extra: listOf(rest[:n])}
		got, err := entry.TakeItem(i)
		if n < mostCerts && (err != api.OK || len(got.Chain) != n+1) {
			t.Errorf("TakeItem with a rest of %d: %s, error %d", n, shown(got), err)
		}
		if n >= mostCerts {
			wantNoItem(t, "a rest of "+strconv.Itoa(n), i)
		}
	}
}

func TestTakeItemWithAnyByteChanged(t *testing.T) {
	for _, e := range []api.Entry{of(258, "ab"), of(7, "ab", "c"), of(1, "a", "b", "c", "d")} {
		i := itemOf(e)
		for at := range len(i.Leaf) + len(i.Extra) {
			for c := range 256 {
				x := api.Item{Leaf: bytes.Clone(i.Leaf), Extra: bytes.Clone(i.Extra)}
				if at < len(x.Leaf) {
					x.Leaf[at] = byte(c)
				} else {
					x.Extra[at-len(x.Leaf)] = byte(c)
				}
				wantItemAsTold(t, "a changed byte", x)
			}
		}
	}
}

func TestTakeItemOfWhatever(t *testing.T) {
	var taken int
	for seed := range uint64(20000) {
		i := itemOf(randomEntry(&seed))
		if random(&seed, 2) == 0 {
			i.Leaf = changed(i.Leaf, &seed)
		} else {
			i.Extra = changed(i.Extra, &seed)
		}
		wantItemAsTold(t, "changed bytes", i)
		if _, is := toldItem(i); is {
			taken++
		}
	}
	if taken < 100 {
		t.Errorf("of the changed bytes only %d are items", taken)
	}
}

// P5.3

func TestBackFromEntries(t *testing.T) {
	entries := good()
	for seed := range uint64(2000) {
		entries = append(entries, randomEntry(&seed))
	}
	for _, e := range entries {
		b, err := entry.Record(e)
		if err != api.OK {
			t.Fatalf("Record of %s: error %d", shown(e), err)
		}
		if got, err := entry.TakeRecord(b); err != api.OK || !equal(got, e) || !entry.Same(got, e) {
			t.Errorf("a record's way back: got %s, error %d, want %s", shown(got), err, shown(e))
		}
		i, err := entry.Item(e)
		if err != api.OK {
			t.Fatalf("Item of %s: error %d", shown(e), err)
		}
		if got, err := entry.TakeItem(i); err != api.OK || !equal(got, e) || !entry.Same(got, e) {
			t.Errorf("an item's way back: got %s, error %d, want %s", shown(got), err, shown(e))
		}
	}
}

func TestBackFromBytes(t *testing.T) {
	for seed := range uint64(20000) {
		e := randomEntry(&seed)
		b := changed(recordOf(e), &seed)
		if got, err := entry.TakeRecord(b); err == api.OK {
			again, err := entry.Record(got)
			wantBytes(t, "a record laid down again", again, err, b)
		}
		i := itemOf(e)
		i.Leaf = changed(i.Leaf, &seed)
		if got, err := entry.TakeItem(i); err == api.OK {
			again, err := entry.Item(got)
			wantBytes(t, "a leaf laid down again", again.Leaf, err, i.Leaf)
			wantBytes(t, "extra bytes laid down again", again.Extra, err, i.Extra)
		}
	}
}

// P5.4

func TestOneLeafHasOneTimeAndCertificate(t *testing.T) {
	met := map[string]api.Entry{}
	meet := func(e api.Entry) {
		leaf, _ := entry.Leaf(e)
		x, is := met[string(leaf)]
		if is && (x.Time != e.Time || string(x.Chain[0]) != string(e.Chain[0])) {
			t.Errorf("one leaf of %s and of %s", shown(x), shown(e))
		}
		met[string(leaf)] = e
	}
	texts := []string{"\x00", "\x00\x00", "\x00\x00\x00", "\x01", "\x00\x01", "\x01\x00", "a", "aa", "a\x00\x00", "a\x00\x00\x00\x00"}
	times := []uint64{0, 1, 256, 1 << 16, 1 << 56, math.MaxUint64}
	for _, time := range times {
		for _, text := range texts {
			meet(of(time, text))
			meet(of(time, text, "rest"))
		}
	}
	if len(met) != len(times)*len(texts) {
		t.Errorf("%d leaves of %d times and certificates", len(met), len(times)*len(texts))
	}
}

// The shortest certificates that fill a head's 50 bytes, and whatever else: the second byte tells the two apart.
func TestNoBytesAreSignedForBoth(t *testing.T) {
	head := entry.SignedHead(api.Head{})
	for n := 1; n <= mostBytes; n++ {
		sct, err := entry.SignedSCT(of(0, string(make([]byte, n))))
		if err != api.OK || sct[1] != 0 || bytes.Equal(sct, head) {
			t.Errorf("SignedSCT of %d bytes: % .60x, error %d", n, sct, err)
		}
	}
	for _, n := range []uint64{0, 1, 1 << 56, math.MaxUint64} {
		for _, r := range []api.Digest{{}, {0: 1}, {31: 0xff}} {
			if head := entry.SignedHead(api.Head{Size: n, Time: n, Root: r}); head[1] != 1 {
				t.Errorf("SignedHead: % x", head)
			}
		}
	}
}

// R3: what is handed in is only read, what is answered is new memory.

func TestWhatIsHandedInIsOnlyRead(t *testing.T) {
	for _, e := range good() {
		e := roomy(e)
		before := copied(e)
		b, i := recordOf(e), itemOf(e)
		leaf, extra, record := bytes.Clone(i.Leaf), bytes.Clone(i.Extra), bytes.Clone(b)
		entry.May(e)
		entry.Same(e, e)
		entry.Leaf(e)
		entry.Extra(e)
		entry.Record(e)
		entry.Item(e)
		entry.SignedSCT(e)
		entry.TakeRecord(b)
		entry.TakeItem(i)
		if !equal(e, before) || !bytes.Equal(b, record) || !bytes.Equal(i.Leaf, leaf) || !bytes.Equal(i.Extra, extra) {
			t.Errorf("what was handed in has changed: %s, was %s", shown(e), shown(before))
		}
		for _, c := range e.Chain {
			if room := c[len(c):cap(c)]; !bytes.Equal(room, make([]byte, len(room))) {
				t.Errorf("the room behind a certificate of %s was written to", shown(e))
			}
		}
		for _, c := range e.Chain[len(e.Chain):cap(e.Chain)] {
			if c != nil {
				t.Errorf("the room behind the chain of %s was written to", shown(e))
			}
		}
	}
}

func TestBytesAreNewMemory(t *testing.T) {
	for _, e := range good() {
		given := roomy(e)
		leaf, _ := entry.Leaf(given)
		extra, _ := entry.Extra(given)
		record, _ := entry.Record(given)
		signed, _ := entry.SignedSCT(given)
		item, _ := entry.Item(given)
		spoilEntry(given)
		wantBytes(t, "Leaf", leaf, api.OK, leafOf(e.Time, e.Chain[0]))
		wantBytes(t, "Extra", extra, api.OK, listOf(e.Chain[1:]))
		wantBytes(t, "Record", record, api.OK, recordOf(e))
		wantBytes(t, "SignedSCT", signed, api.OK, leafOf(e.Time, e.Chain[0]))
		wantBytes(t, "Item's extra bytes", item.Extra, api.OK, listOf(e.Chain[1:]))
		spoil(item.Extra)
		wantBytes(t, "Item's leaf", item.Leaf, api.OK, leafOf(e.Time, e.Chain[0]))
		spoil(leaf)
		again, err := entry.Leaf(e)
		wantBytes(t, "Leaf again", again, err, leafOf(e.Time, e.Chain[0]))
	}
}

func TestEntriesAreNewMemory(t *testing.T) {
	for _, e := range good() {
		b, i := recordOf(e), itemOf(e)
		one, _ := entry.TakeRecord(b)
		two, _ := entry.TakeItem(i)
		spoil(b)
		spoil(i.Leaf)
		spoil(i.Extra)
		if !equal(one, e) || !equal(two, e) {
			t.Errorf("entries change with what they were taken of: %s, %s, were %s", shown(one), shown(two), shown(e))
		}
		for _, got := range []api.Entry{one, two} {
			for at, c := range got.Chain {
				spoil(c)
				for behind, x := range got.Chain[at+1:] {
					if string(x) != string(e.Chain[at+1+behind]) {
						t.Errorf("two certificates of %s share memory", shown(e))
					}
				}
			}
		}
	}
}

// A program is one, whatever goroutines there are (R7).
func TestGoroutines(t *testing.T) {
	e := of(5, "ab", "c")
	want := recordOf(e)
	done := make(chan bool)
	for range 8 {
		go func() {
			b, _ := entry.Record(e)
			x, _ := entry.TakeRecord(b)
			done <- bytes.Equal(b, want) && equal(x, e)
		}()
	}
	for range 8 {
		if !<-done {
			t.Error("an answer hangs on other goroutines")
		}
	}
}

func FuzzTakeRecord(f *testing.F) {
	for _, e := range good() {
		f.Add(recordOf(e))
	}
	f.Fuzz(func(t *testing.T, b []byte) {
		wantRecordAsTold(t, "any bytes", b)
	})
}

func FuzzTakeItem(f *testing.F) {
	for _, e := range good() {
		i := itemOf(e)
		f.Add(i.Leaf, i.Extra)
	}
	f.Fuzz(func(t *testing.T, leaf, extra []byte) {
		wantItemAsTold(t, "any bytes", api.Item{Leaf: leaf, Extra: extra})
	})
}
