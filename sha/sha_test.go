package sha_test

import (
	"bytes"
	"crypto/sha256"
	"encoding/hex"
	"strings"
	"testing"

	"escritoire/api"
	"escritoire/sha"
)

// hashOfNone is the hash of no bytes, as the document tells it.
const hashOfNone = "e3b0c44298fc1c149afbf4c8996fb92427ae41e4649b934ca495991b7852b855"

// edges are lengths at which the padding, or a block, just fits or just does not.
var edges = []int{0, 1, 54, 55, 56, 57, 62, 63, 64, 65, 118, 119, 120, 127, 128, 129}

// anyBytes are n bytes of a seed, by a rule of their own.
func anyBytes(seed uint64, n int) []byte {
	out := make([]byte, n)
	for i := range out {
		seed = seed*6364136223846793005 + 1442695040888963407
		out[i] = byte(seed >> 56)
	}
	return out
}

// written is a state to which each of the parts was written.
func written(parts ...[]byte) *sha.State {
	s := sha.New()
	for _, b := range parts {
		s.Write(b)
	}
	return s
}

// statesOfNobody are some that New did not make.
func statesOfNobody() map[string]*sha.State {
	return map[string]*sha.State{"nil": nil, "zero": {}, "new": new(sha.State)}
}

func wantHash(t *testing.T, what string, got api.Digest, b []byte) {
	t.Helper()
	if want := sha256.Sum256(b); got != want {
		t.Errorf("%s, of %d bytes: got %x, want %x", what, len(b), got, want)
	}
}

// wantState holds a state against the bytes that were written to it.
func wantState(t *testing.T, what string, s *sha.State, b []byte) {
	t.Helper()
	wantHash(t, what+": Sum", s.Sum(), b)
	if got := s.Len(); got != uint64(len(b)) {
		t.Errorf("%s: Len is %d, want %d", what, got, len(b))
	}
}

// P2.1

func TestSumOfKnownTexts(t *testing.T) {
	for _, x := range []struct{ text, hash string }{
		{"", hashOfNone},
		{"abc", "ba7816bf8f01cfea414140de5dae2223b00361a396177a9cb410ff61f20015ad"},
		{"abcdbcdecdefdefgefghfghighijhijkijkljklmklmnlmnomnopnopq", "248d6a61d20638b8e5c026930c3e6039a33ce45964ff2167f6ecedd419db06c1"},
		{strings.Repeat("a", 1000000), "cdc76e5c9914fb9281a1c7e284d73e67f1809a48a497200e046d39ccc7112cd0"},
	} {
		got := sha.Sum([]byte(x.text))
		if hex.EncodeToString(got[:]) != x.hash {
			t.Errorf("Sum of %.60q: got %x, want %s", x.text, got, x.hash)
		}
		if got := written([]byte(x.text)).Sum(); hex.EncodeToString(got[:]) != x.hash {
			t.Errorf("State's Sum of %.60q: got %x, want %s", x.text, got, x.hash)
		}
	}
}

func TestSumOfEachLength(t *testing.T) {
	for n := range 400 {
		for _, b := range [][]byte{make([]byte, n), bytes.Repeat([]byte{0xff}, n), bytes.Repeat([]byte{0x80}, n), anyBytes(uint64(n), n)} {
			wantHash(t, "Sum", sha.Sum(b), b)
			wantState(t, "a state", written(b), b)
		}
	}
}

func TestSumOfNone(t *testing.T) {
	wantHash(t, "Sum of nil", sha.Sum(nil), nil)
	wantHash(t, "Sum of an empty one", sha.Sum([]byte{}), nil)
	wantState(t, "a new state", sha.New(), nil)
	wantState(t, "a state, none written", written(nil, []byte{}, nil), nil)
}

// So many bytes that how many bits there were takes more than three bytes to tell.
func TestSumOfMany(t *testing.T) {
	b := anyBytes(1, 1<<21+55)
	wantHash(t, "Sum", sha.Sum(b), b)
	wantState(t, "a state", written(b[:1<<20+1], b[1<<20+1:]), b)
}

func TestEachBitCounts(t *testing.T) {
	b := anyBytes(3, 130)
	seen := map[api.Digest]bool{sha.Sum(b): true}
	for i := range 8 * len(b) {
		b[i/8] ^= 1 << (i % 8)
		got := sha.Sum(b)
		wantHash(t, "Sum", got, b)
		if seen[got] {
			t.Fatalf("bit %d does not count", i)
		}
		seen[got] = true
		b[i/8] ^= 1 << (i % 8)
	}
}

func TestStatesSumChangesNothing(t *testing.T) {
	for _, n := range edges {
		b := anyBytes(5, n)
		s := written(b)
		for range 3 {
			wantState(t, "the same state", s, b)
		}
		for _, more := range edges {
			b = append(b, anyBytes(uint64(more), more)...)
			s.Write(b[len(b)-more:])
			wantState(t, "a state that was asked before", s, b)
		}
	}
}

func TestCopyLivesApart(t *testing.T) {
	for _, n := range edges {
		b, x, y := anyBytes(7, n), []byte("written to the one"), anyBytes(8, 100)
		s := written(b)
		c := s.Copy()
		wantState(t, "a copy", c, b)
		s.Write(x)
		wantState(t, "a copy, behind a Write to what it is of", c, b)
		c.Write(y)
		wantState(t, "a state, behind a Write to its copy", s, append(bytes.Clone(b), x...))
		wantState(t, "a copy that was written to", c, append(bytes.Clone(b), y...))
		d := c.Copy()
		c.Write(x)
		wantState(t, "a copy of a copy", d, append(bytes.Clone(b), y...))
	}
}

func TestStatesAreApart(t *testing.T) {
	one, two := sha.New(), sha.New()
	one.Write([]byte("abc"))
	wantState(t, "another state", two, nil)
	two.Write([]byte("d"))
	wantState(t, "the one state", one, []byte("abc"))
}

func TestStateThatNewDidNotMake(t *testing.T) {
	for what, s := range statesOfNobody() {
		for _, b := range [][]byte{nil, {}, []byte("abc"), make([]byte, 64), make([]byte, 200)} {
			s.Write(b)
			wantState(t, "a state that is "+what, s, nil)
			if c := s.Copy(); c != nil {
				t.Errorf("Copy of a state that is %s: got %v, want nil", what, c)
			}
		}
		if got := s.Sum(); hex.EncodeToString(got[:]) != hashOfNone {
			t.Errorf("Sum of a state that is %s: got %x, want %s", what, got, hashOfNone)
		}
	}
}

// What is handed in has room behind it, which an append in place would write to.
func TestWhatIsHandedInIsOnlyReadAndNotKept(t *testing.T) {
	for _, n := range edges {
		room := anyBytes(9, n+200)
		before := bytes.Clone(room)
		b := room[:n]
		sum := sha.Sum(b)
		s := written(b)
		s.Sum()
		if !bytes.Equal(room, before) {
			t.Fatalf("what was handed in, %d bytes, has changed", n)
		}
		for i := range room {
			room[i] ^= 0xff
		}
		wantHash(t, "Sum", sum, before[:n])
		wantState(t, "a state, behind a change of what was handed in", s, before[:n])
	}
}

// P2.2

func TestHex(t *testing.T) {
	if got := sha.Hex(sha.Sum(nil)); got != hashOfNone {
		t.Errorf("Hex of the hash of none: got %s", got)
	}
	if got := sha.Hex(sha.Sum([]byte("abc"))); got != "ba7816bf8f01cfea414140de5dae2223b00361a396177a9cb410ff61f20015ad" {
		t.Errorf(`Hex of the hash of "abc": got %s`, got)
	}
	for _, d := range digests() {
		if got, want := sha.Hex(d), hex.EncodeToString(d[:]); got != want {
			t.Errorf("Hex: got %s, want %s", got, want)
		}
	}
}

// digests are some that have each byte in each place.
func digests() []api.Digest {
	out := make([]api.Digest, 256)
	for first := range out {
		for i := range out[first] {
			out[first][i] = byte(first + 37*i)
		}
	}
	return append(out, api.Digest{}, sha.Sum(nil))
}

func wantNoHash(t *testing.T, s string) {
	t.Helper()
	if d, e := sha.Unhex(s); e != api.ErrForm || d != (api.Digest{}) {
		t.Errorf("Unhex(%q): got %x, error %d, want noughts, error %d", s, d, e, api.ErrForm)
	}
}

func TestUnhexOfWrongLength(t *testing.T) {
	for n := range 200 {
		if n != 64 {
			wantNoHash(t, strings.Repeat("a", n))
		}
	}
	wantNoHash(t, hashOfNone[:63])
	wantNoHash(t, hashOfNone[1:])
	wantNoHash(t, hashOfNone+"0")
	wantNoHash(t, "0"+hashOfNone)
	wantNoHash(t, hashOfNone+"\n")
	wantNoHash(t, "0x"+hashOfNone)
	wantNoHash(t, hashOfNone+hashOfNone)
	wantNoHash(t, strings.Repeat("f", 64+1<<16))
}

func TestUnhexOfEachSignInEachPlace(t *testing.T) {
	for place := range 64 {
		for c := range 256 {
			s := []byte(hashOfNone)
			s[place] = byte(c)
			if !strings.Contains("0123456789abcdef", string(s[place:place+1])) {
				wantNoHash(t, string(s))
				continue
			}
			want, _ := hex.DecodeString(string(s))
			if d, e := sha.Unhex(string(s)); e != api.OK || !bytes.Equal(d[:], want) {
				t.Errorf("Unhex(%s): got %x, error %d", s, d, e)
			}
		}
	}
}

func TestUnhexOfOtherSigns(t *testing.T) {
	wantNoHash(t, strings.ToUpper(hashOfNone))
	wantNoHash(t, hashOfNone[:63]+"A")
	wantNoHash(t, "A"+hashOfNone[1:])
	wantNoHash(t, hashOfNone[:62]+"0x")
	wantNoHash(t, "0x"+hashOfNone[2:])
	wantNoHash(t, " "+hashOfNone[1:])
	wantNoHash(t, "-"+hashOfNone[1:])
	wantNoHash(t, hashOfNone[:62]+"é")        // 64 bytes, 63 signs
	wantNoHash(t, hashOfNone[:63]+"é")        // 64 signs, 65 bytes
	wantNoHash(t, strings.Repeat("１", 64))    // digits, but wide ones
	wantNoHash(t, strings.Repeat("\x00", 64)) // signs that are the digits' worth
	wantNoHash(t, strings.Repeat("\xff", 64)) // no signs at all
	wantNoHash(t, strings.Repeat(" ", 64))    // nothing to be seen
	wantNoHash(t, strings.Repeat("/:`g", 16)) // the signs beside the digits
	wantNoHash(t, strings.Repeat("@G\x7f", 21)+"G")
}

// P2.3

func TestInTwoPartsOfEachLength(t *testing.T) {
	b := anyBytes(11, 200)
	for n := range len(b) + 1 {
		for cut := range n + 1 {
			wantState(t, "two parts", written(b[:cut], b[cut:n]), b[:n])
		}
	}
}

func TestInPartsOfOneLength(t *testing.T) {
	b := anyBytes(12, 517)
	for length := 1; length <= 200; length++ {
		s := sha.New()
		for at := 0; at < len(b); at += length {
			s.Write(b[at:min(at+length, len(b))])
			s.Write(nil)
		}
		wantState(t, "parts of one length", s, b)
	}
}

func TestInPartsOfUnlikeLengths(t *testing.T) {
	for seed := range uint64(300) {
		lengths := anyBytes(seed, 12)
		b := anyBytes(seed+1000, 12*255)
		s, n := sha.New(), 0
		for _, length := range lengths {
			s.Write(b[n : n+int(length)])
			n += int(length)
			if length%3 == 0 {
				s = s.Copy()
			}
			wantState(t, "parts of unlike lengths", s, b[:n])
		}
	}
}

// P2.4

func TestUnhexOfHex(t *testing.T) {
	for _, d := range digests() {
		if got, e := sha.Unhex(sha.Hex(d)); e != api.OK || got != d {
			t.Errorf("Unhex of Hex: got %x, error %d, want %x", got, e, d)
		}
	}
}

func TestHexOfUnhex(t *testing.T) {
	const digits = "0123456789abcdef"
	for seed := range uint64(300) {
		text := anyBytes(seed, 64)
		for i := range text {
			text[i] = digits[text[i]&15]
		}
		d, e := sha.Unhex(string(text))
		if got := sha.Hex(d); e != api.OK || got != string(text) {
			t.Errorf("Hex of Unhex: got %s, error %d, want %s", got, e, text)
		}
	}
}

// A program is one, whatever goroutines there are (R7): Sum, Len and Copy only read, so they may be asked side by side.
func TestStateIsAskedInGoroutines(t *testing.T) {
	b := anyBytes(13, 100)
	s := written(b)
	done := make(chan api.Digest)
	for range 8 {
		go func() {
			c := s.Copy()
			c.Write(b[:s.Len()])
			if s.Sum() != sha.Sum(b) {
				c.Write([]byte("unlike"))
			}
			done <- c.Sum()
		}()
	}
	for range 8 {
		wantHash(t, "a copy made in a goroutine", <-done, append(bytes.Clone(b), b...))
	}
}
