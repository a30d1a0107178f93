package base_test

import (
	"bytes"
	"encoding/base64"
	"math"
	"strings"
	"testing"

	"escritoire/api"
	"escritoire/base"
)

// letters are those of the alphabet, in their order.
const letters = "ABCDEFGHIJKLMNOPQRSTUVWXYZabcdefghijklmnopqrstuvwxyz0123456789+/"

// known are bytes and their texts, by RFC 4648 (section 10) and by hand.
var known = []struct{ bytes, text string }{
	{"", ""},
	{"f", "Zg=="},
	{"fo", "Zm8="},
	{"foo", "Zm9v"},
	{"foob", "Zm9vYg=="},
	{"fooba", "Zm9vYmE="},
	{"foobar", "Zm9vYmFy"},
	{"\x00", "AA=="},
	{"\x00\x00", "AAA="},
	{"\x00\x00\x00", "AAAA"},
	{"\xff", "/w=="},
	{"\xff\xff", "//8="},
	{"\xff\xff\xff", "////"},
	{"\xfb\xef\xbe", "++++"},
	{"\x14\xfb\x9c\x03\xd9\x7e", "FPucA9l+"},
	{"\x00\x10\x83\x10\x51\x87\x20\x92\x8b\x30\xd3\x8f\x41\x14\x93\x51\x55\x97\x61\x96\x9b\x71\xd7\x9f" +
		"\x82\x18\xa3\x92\x59\xa7\xa2\x9a\xab\xb2\xdb\xaf\xc3\x1c\xb3\xd3\x5d\xb7\xe3\x9e\xbb\xf3\xdf\xbf", letters},
}

// anyBytes are n bytes of a seed, by a rule of their own.
func anyBytes(seed uint64, n int) []byte {
	out := make([]byte, n)
	for i := range out {
		seed = seed*6364136223846793005 + 1442695040888963407
		out[i] = byte(seed >> 56)
	}
	return out
}

// isText tells whether s is the text of some bytes: the library's strict reader passes over ends of lines, which are no letters here.
func isText(s string) ([]byte, bool) {
	b, err := base64.StdEncoding.Strict().DecodeString(s)
	return b, err == nil && !strings.ContainsAny(s, "\r\n")
}

func wantPut(t *testing.T, b []byte) {
	t.Helper()
	if got, want := base.Put(b), base64.StdEncoding.EncodeToString(b); got != want {
		t.Errorf("Put(% x): got %q, want %q", b, got, want)
	}
}

func wantTake(t *testing.T, s string, want []byte) {
	t.Helper()
	if got, e := base.Take(s); e != api.OK || !bytes.Equal(got, want) {
		t.Errorf("Take(%q): got % x, error %d, want % x", s, got, e, want)
	}
}

func wantNoText(t *testing.T, s string) {
	t.Helper()
	if got, e := base.Take(s); e != api.ErrForm || len(got) != 0 {
		t.Errorf("Take(%q): got % x, error %d, want nothing, error %d", s, got, e, api.ErrForm)
	}
}

// wantAsIs wants s taken if it is a text, refused if it is none, and, if taken, put as it was.
func wantAsIs(t *testing.T, s string) {
	t.Helper()
	want, is := isText(s)
	if !is {
		wantNoText(t, s)
		return
	}
	wantTake(t, s, want)
	if got := base.Put(want); got != s {
		t.Errorf("Put of what Take(%q) tells: got %q", s, got)
	}
}

// P3.1: Put

func TestPutOfKnownBytes(t *testing.T) {
	for _, x := range known {
		if got := base.Put([]byte(x.bytes)); got != x.text {
			t.Errorf("Put(% x): got %q, want %q", x.bytes, got, x.text)
		}
	}
}

func TestPutOfNone(t *testing.T) {
	for _, b := range [][]byte{nil, {}} {
		if got := base.Put(b); got != "" {
			t.Errorf("Put of none: got %q", got)
		}
	}
}

func TestPutOfEachByteAndEachTwo(t *testing.T) {
	for x := range 256 {
		wantPut(t, []byte{byte(x)})
		for y := range 256 {
			wantPut(t, []byte{byte(x), byte(y)})
		}
	}
}

func TestPutOfEachByteInEachPlaceOfThree(t *testing.T) {
	for x := range 256 {
		for _, y := range []byte{0, 0x55, 0xaa, 0xff} {
			wantPut(t, []byte{byte(x), y, ^y})
			wantPut(t, []byte{y, byte(x), ^y})
			wantPut(t, []byte{y, ^y, byte(x)})
		}
	}
}

func TestPutOfEachLength(t *testing.T) {
	for n := range 600 {
		for _, b := range [][]byte{make([]byte, n), bytes.Repeat([]byte{0xff}, n), anyBytes(uint64(n), n)} {
			wantPut(t, b)
		}
	}
	b := anyBytes(1, 1<<20+1)
	if got := base.Put(b); got != base64.StdEncoding.EncodeToString(b) {
		t.Errorf("Put of %d bytes is another text", len(b))
	}
}

// P3.1: Take

func TestTakeOfKnownTexts(t *testing.T) {
	for _, x := range known {
		wantTake(t, x.text, []byte(x.bytes))
	}
}

func TestTakeOfDocumentsOthers(t *testing.T) {
	for _, s := range []string{"Zh==", "Zg=", "Zg", "Zm9v\n"} {
		wantNoText(t, s)
	}
}

func TestTakeOfOtherPadding(t *testing.T) {
	for _, s := range []string{
		"=", "==", "===", "====", "========", "A", "A=", "A==", "A===", "AA", "AA=", "AA===", "AAA", "AAA==", "AAA===", "AAAA=", "AAAA==", "AAAA===", "AAAA====",
		"=A==", "A=A=", "A==A", "=AA=", "=AAA", "A=AA", "AA=A", "==AA", "===A", "AA==AA==", "AA==AAAA", "AAA=AAAA", "AAAA=AAA", "AAAAAA=A",
		"Zm9vYg", "Zm9vYg=", "Zm9vYg===", "Zm9vYmE", "Zm9vYmE==", "Zm9vYmFy=", "Zm9vYmFy====", "=Zm9v", "====Zm9v", "AA.=", "AA..", "AAA-",
	} {
		wantNoText(t, s)
	}
}

func TestTakeOfEachSignInEachPlace(t *testing.T) {
	for _, x := range known {
		for place := range len(x.text) {
			for c := range 256 {
				s := []byte(x.text)
				s[place] = byte(c)
				wantAsIs(t, string(s))
			}
		}
	}
}

func TestTakeOfSignsMoreOrFewer(t *testing.T) {
	for _, x := range known[1:] {
		for place := range len(x.text) + 1 {
			for c := range 256 {
				wantNoText(t, x.text[:place]+string([]byte{byte(c)})+x.text[place:])
			}
			if place < len(x.text) {
				wantNoText(t, x.text[:place]+x.text[place+1:])
			}
		}
	}
}

func TestTakeOfOtherLetters(t *testing.T) {
	for _, s := range []string{
		"----", "____", "-_==", "AA-=", "_A==", // the alphabet for names of files
		"AAA\n", "\nAAA", "AA\r\n", "AAAA\r\n", "AAAA\n\n\n\n", "\n\n\n\nAAAA", "AA\n\nAA", "AA==\n\n\n\n", "AA\n\n==", "AA=\n=", "\n\n\n\n",
		"    ", " AAA", "AAA ", "AA =", "AAAA    ", "\tAAA", "A\x00AA", "\x00\x00\x00\x00", "\xff\xff\xff\xff",
		"AAé", "éAAA", "éé", "ＡＡＡＡ", "AAA\u0391", "AAA\u212a", "*AAA", "@[`{", ",.:AA", "AAA\"", "%3D=", "AA%3D",
	} {
		wantNoText(t, s)
	}
}

func TestTakeOfBitsBehindTheLastByte(t *testing.T) {
	for _, ahead := range []string{"", "Zm9v"} {
		for x := range 64 {
			for y := range 64 {
				two := ahead + letters[x:x+1] + letters[y:y+1]
				if y%16 == 0 {
					wantTake(t, two+"==", append([]byte("foo")[:len(ahead)/4*3], byte(x<<2|y>>4)))
				} else {
					wantNoText(t, two+"==")
				}
				for z := range 64 {
					if s := two + letters[z:z+1] + "="; z%4 != 0 {
						wantNoText(t, s)
					} else {
						wantTake(t, s, append([]byte("foo")[:len(ahead)/4*3], byte(x<<2|y>>4), byte(y<<4|z>>2)))
					}
				}
			}
		}
	}
}

// All texts, up to a length, of letters with no bit, the highest, the lowest, and all bits, of padding, and of no letters.
func TestTakeOfAllTextsOfSomeSigns(t *testing.T) {
	texts := []string{""}
	for range 6 {
		var longer []string
		for _, s := range texts {
			wantAsIs(t, s)
			for _, c := range "AgB/=\n-" {
				longer = append(longer, s+string(c))
			}
		}
		texts = longer
	}
}

func TestTakeOfAFaultFarBehind(t *testing.T) {
	s := strings.Repeat("Zm9v", 1<<16)
	wantNoText(t, s+"Zm9")
	wantNoText(t, s+"Zm9-")
	wantNoText(t, s+"Zm9=")
	wantNoText(t, s+"Zh==")
	wantNoText(t, s+"Zg==Zg==")
	wantTake(t, s+"Zg==", []byte(strings.Repeat("foo", 1<<16)+"f"))
}

// P3.1: Size

func TestSize(t *testing.T) {
	for _, x := range []struct{ n, want int }{
		{0, 0}, {1, 4}, {2, 4}, {3, 4}, {4, 8}, {5, 8}, {6, 8}, {7, 12}, {512, 684}, {4096, 5464}, {1<<31 - 1, 2863311532},
		{-1, 0}, {-2, 0}, {-3, 0}, {-4, 0}, {math.MinInt32, 0}, {math.MinInt + 1, 0}, {math.MinInt, 0},
	} {
		if got := base.Size(x.n); got != x.want {
			t.Errorf("Size(%d): got %d, want %d", x.n, got, x.want)
		}
	}
}

func TestSizeIsThatOfPut(t *testing.T) {
	for n := range 2000 {
		if got, want := base.Size(n), len(base.Put(make([]byte, n))); got != want {
			t.Errorf("Size(%d): got %d, want %d", n, got, want)
		}
	}
}

// Of so many bytes that no int tells the letters the greatest int is told: sums do not wrap (R6).
func TestSizeDoesNotWrap(t *testing.T) {
	most := math.MaxInt / 4 * 3
	for n := most - 5; n <= most; n++ {
		if got, want := uint64(base.Size(n)), (uint64(n)+2)/3*4; got != want {
			t.Errorf("Size(%d): got %d, want %d", n, got, want)
		}
	}
	for _, n := range []int{most + 1, most + 2, most + 3, most + 4, math.MaxInt / 4 * 4, math.MaxInt - 2, math.MaxInt - 1, math.MaxInt} {
		if got := base.Size(n); got != math.MaxInt {
			t.Errorf("Size(%d): got %d, want %d", n, got, math.MaxInt)
		}
	}
}

// P3.2

func TestTakeOfPut(t *testing.T) {
	for n := range 600 {
		for seed := range uint64(4) {
			b := anyBytes(seed<<32+uint64(n), n)
			wantTake(t, base.Put(b), b)
		}
	}
	for x := range 1 << 16 {
		b := []byte{byte(x >> 8), byte(x)}
		wantTake(t, base.Put(b), b)
		wantTake(t, base.Put(append(b, 0xa5)), append(b, 0xa5))
	}
}

func TestPutOfTake(t *testing.T) {
	for seed := range uint64(3000) {
		text := anyBytes(seed, 4*int(1+seed%9))
		for i := range text {
			text[i] = letters[text[i]&63]
		}
		wantAsIs(t, string(text))
		text[len(text)-1] = '='
		wantAsIs(t, string(text))
		text[len(text)-2] = letters[seed%16*4] // no bits are left over
		wantAsIs(t, string(text))
		text[len(text)-2] = '='
		wantAsIs(t, string(text))
		text[len(text)-3] = letters[seed%4*16]
		wantAsIs(t, string(text))
	}
}

// P3.3

func TestTextOfSomeTimesThreeBytesAndOthers(t *testing.T) {
	for n := 0; n <= 60; n += 3 {
		for more := range 20 {
			one, two := anyBytes(uint64(n), n), anyBytes(uint64(100+more), more)
			both := append(bytes.Clone(one), two...)
			if got, want := base.Put(both), base.Put(one)+base.Put(two); got != want {
				t.Errorf("Put of %d and %d bytes: got %q, want %q", n, more, got, want)
			}
			wantTake(t, base.Put(one)+base.Put(two), both)
		}
	}
}

// R3

// What is handed in has room behind it, which an append in place would write to.
func TestWhatIsHandedInIsOnlyReadAndNotKept(t *testing.T) {
	for n := range 50 {
		room := anyBytes(9, n+100)
		before := bytes.Clone(room)
		text := base.Put(room[:n])
		want := base64.StdEncoding.EncodeToString(room[:n])
		if !bytes.Equal(room, before) {
			t.Fatalf("what was handed in, %d bytes, has changed", n)
		}
		for i := range room {
			room[i] ^= 0xff
		}
		if text != want {
			t.Errorf("a text, behind a change of what was handed in: got %q, want %q", text, want)
		}
	}
}

func TestWhatIsTakenIsNewMemory(t *testing.T) {
	for _, x := range known {
		one, _ := base.Take(x.text)
		two, _ := base.Take(x.text)
		for i := range one[:cap(one)] {
			one[:cap(one)][i] ^= 0xff
		}
		if string(two) != x.bytes {
			t.Errorf("Take(%q), behind a change of the same again: got % x", x.text, two)
		}
		wantTake(t, x.text, []byte(x.bytes))
	}
}

func FuzzTake(f *testing.F) {
	for _, x := range known {
		f.Add(x.text)
	}
	f.Fuzz(wantAsIs)
}

func FuzzPut(f *testing.F) {
	for _, x := range known {
		f.Add([]byte(x.bytes))
	}
	f.Fuzz(func(t *testing.T, b []byte) {
		wantPut(t, b)
		wantTake(t, base.Put(b), b)
	})
}
