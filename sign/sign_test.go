package sign_test

import (
	"bytes"
	"crypto/sha256"
	"encoding/hex"
	"slices"
	"sync"
	"testing"

	"escritoire/api"
	"escritoire/sign"
)

// P6.1

func TestMay(t *testing.T) {
	for n := range 1000 {
		if got, want := sign.May(make([]byte, n)), n >= 1 && n <= mostKey; got != want {
			t.Errorf("May of %d bytes tells %v, want %v", n, got, want)
		}
	}
	for what, key := range badKeys() {
		if sign.May(key) {
			t.Errorf("May tells true of a key that is %s", what)
		}
	}
	for _, key := range goodKeys() {
		if !sign.May(key) {
			t.Errorf("May tells false of a key of %d bytes", len(key))
		}
	}
}

// Two signatures and two numbers, worked out with another program.
func TestKnown(t *testing.T) {
	for _, x := range []struct{ key, msg, sig, id string }{
		{"k", "m", knownSig, knownId},
		{"key", "", emptySig, emptyId},
	} {
		sig := signed(t, []byte(x.key), []byte(x.msg))
		if got := hex.EncodeToString(sig[:]); got != x.sig {
			t.Errorf("Sign(%q, %q): got %s, want %s", x.key, x.msg, got, x.sig)
		}
		id, e := sign.Id([]byte(x.key))
		if got := hex.EncodeToString(id[:]); got != x.id || e != api.OK {
			t.Errorf("Id(%q): got %s, error %d, want %s", x.key, got, e, x.id)
		}
	}
}

func TestSignByEachKey(t *testing.T) {
	for _, key := range goodKeys() {
		for _, msg := range [][]byte{nil, []byte("m"), anyBytes(uint64(len(key)), 100)} {
			wantSigned(t, key, msg)
		}
	}
	wantSigned(t, []byte{0}, nil)
	wantSigned(t, make([]byte, mostKey), make([]byte, mostKey))
	wantSigned(t, bytes.Repeat([]byte{0xff}, mostKey), bytes.Repeat([]byte{0xff}, 300))
}

func TestSignOfEachMessage(t *testing.T) {
	for _, msg := range messages() {
		for _, key := range [][]byte{[]byte("k"), anyBytes(1, 31), anyBytes(2, mostKey)} {
			wantSigned(t, key, msg)
		}
	}
}

func TestIdOfEachKey(t *testing.T) {
	seen := map[api.Digest]bool{}
	for _, key := range goodKeys() {
		id, e := sign.Id(key)
		if want := sha256.Sum256(append([]byte{0}, key...)); e != api.OK || id != want {
			t.Errorf("Id of a key of %d bytes: got %x, error %d, want %x", len(key), id, e, want)
		}
		if seen[id] {
			t.Errorf("two keys have the number %x", id)
		}
		seen[id] = true
	}
}

func TestKeysThatMayNotBe(t *testing.T) {
	for what, key := range badKeys() {
		for _, msg := range [][]byte{nil, []byte("m"), anyBytes(1, 200)} {
			sig, e := sign.Sign(key, msg)
			if e != api.ErrArg || sig != (signature{}) {
				t.Errorf("Sign by a key that is %s: error %d, signature %x", what, e, sig)
			}
			// Neither noughts, nor what would be the signature, if the key were one.
			wantVerify(t, what+", noughts", key, msg, signature{}, false)
			wantVerify(t, what+", its signature", key, msg, signatureOf(key, msg), false)
		}
		id, e := sign.Id(key)
		if e != api.ErrArg || id != (api.Digest{}) {
			t.Errorf("Id of a key that is %s: error %d, %x", what, e, id)
		}
	}
}

func TestVerify(t *testing.T) {
	key, msg := []byte("k"), []byte("m")
	wantVerify(t, "of the document's own", key, msg, signatureOf(key, msg), true)
	wantVerify(t, "of another message", key, []byte("n"), signatureOf(key, msg), false)
	wantVerify(t, "of noughts", key, msg, signature{}, false)
	for _, key := range goodKeys() {
		wantVerify(t, "of the document's own", key, msg, signatureOf(key, msg), true)
		wantVerify(t, "of noughts", key, msg, signature{}, false)
		wantVerify(t, "of noughts", key, nil, signature{}, false)
	}
}

// P6.2

func TestMark(t *testing.T) {
	b := sign.Mark(signature{})
	if len(b) != markSize || !bytes.Equal(b[:5], []byte{8, 7, 0, 64, 0}) {
		t.Errorf("Mark of noughts: %x", b)
	}
	wantMark(t, signature{})
	wantMark(t, signature(bytes.Repeat([]byte{0xff}, sigBytes)))
	for seed := range uint64(200) {
		wantMark(t, signature(anyBytes(seed, sigBytes)))
	}
	for i := range sigBytes {
		one := signature{}
		one[i] = 1
		wantMark(t, one)
	}
}

func TestUnmarkOfEachSize(t *testing.T) {
	whole := append(markOf(signature(anyBytes(1, sigBytes))), anyBytes(2, 400)...)
	for n := range len(whole) {
		if n != markSize {
			wantNoMark(t, "another size", whole[:n])
			// The same, but that the size is told as it is.
			told := bytes.Clone(whole[:n])
			if n >= 4 {
				told[2], told[3] = byte((n-4)>>8), byte(n-4)
				wantNoMark(t, "another size, told", told)
			}
		}
	}
	wantNoMark(t, "nil", nil)
	wantNoMark(t, "empty", []byte{})
	wantNoMark(t, "very long", make([]byte, 1<<20))
	wantNoMark(t, "two marks", slices.Concat(whole[:markSize], whole[:markSize]))
	wantNoMark(t, "without the first byte", whole[1:markSize+1])
}

func TestUnmarkOfAnotherHead(t *testing.T) {
	good := markOf(signature(anyBytes(3, sigBytes)))
	for at := range 4 {
		for v := range 256 {
			b := bytes.Clone(good)
			b[at] = byte(v)
			if b[at] != good[at] {
				wantNoMark(t, "another head", b)
			}
		}
	}
	b := bytes.Clone(good)
	b[0], b[1] = 7, 8
	wantNoMark(t, "the first two turned", b)
	copy(b, []byte{8, 7, 64, 0})
	wantNoMark(t, "the size turned", b)
	wantNoMark(t, "noughts", make([]byte, markSize))
}

// P6.3

func TestWhatWasSignedIsVerified(t *testing.T) {
	for _, msg := range messages() {
		for _, key := range [][]byte{[]byte("k"), anyBytes(3, 32), anyBytes(4, mostKey)} {
			wantVerify(t, "what was signed", key, msg, signed(t, key, msg), true)
		}
	}
	for _, key := range goodKeys() {
		wantVerify(t, "what was signed", key, []byte("m"), signed(t, key, []byte("m")), true)
	}
}

func TestEachBitOfTheSignatureCounts(t *testing.T) {
	for _, key := range [][]byte{[]byte("k"), anyBytes(5, mostKey)} {
		for _, msg := range [][]byte{nil, []byte("m"), anyBytes(6, 150)} {
			sig := signed(t, key, msg)
			for i := range 8 * sigBytes {
				sig[i/8] ^= 1 << (i % 8)
				wantVerify(t, "another bit", key, msg, sig, false)
				sig[i/8] ^= 1 << (i % 8)
			}
			turned := signature(slices.Concat(sig[32:], sig[:32]))
			wantVerify(t, "both halves turned", key, msg, turned, false)
			wantVerify(t, "one half twice", key, msg, signature(slices.Concat(sig[:32], sig[:32])), false)
		}
	}
}

func TestEachBitOfKeyAndMessageCounts(t *testing.T) {
	key, msg := anyBytes(7, 20), anyBytes(8, 90)
	sig := signed(t, key, msg)
	for i := range 8 * len(key) {
		key[i/8] ^= 1 << (i % 8)
		wantVerify(t, "another key", key, msg, sig, false)
		key[i/8] ^= 1 << (i % 8)
	}
	for i := range 8 * len(msg) {
		msg[i/8] ^= 1 << (i % 8)
		wantVerify(t, "another message", key, msg, sig, false)
		msg[i/8] ^= 1 << (i % 8)
	}
	for n := range len(msg) {
		wantVerify(t, "a beginning of the message", key, msg[:n], sig, false)
	}
	for n := range len(key) {
		wantVerify(t, "a beginning of the key", key[:n], msg, sig, false)
	}
	wantVerify(t, "more of the message", key, append(bytes.Clone(msg), 0), sig, false)
	wantVerify(t, "more of the key", append(bytes.Clone(key), 0), msg, sig, false)
}

// Key and message stand behind each other in what is hashed: where the one ends, and the other begins, counts.
func TestWhereTheKeyEndsCounts(t *testing.T) {
	for _, both := range [][]byte{anyBytes(9, mostKey), make([]byte, mostKey), bytes.Repeat([]byte{1}, mostKey)} {
		seen := map[signature]int{}
		for n := 1; n <= mostKey; n++ {
			sig := signed(t, both[:n], both[n:])
			if m, is := seen[sig]; is {
				t.Errorf("a key of %d bytes and one of %d have one signature", m, n)
			}
			seen[sig] = n
		}
	}
}

// What is hashed for a number, and for each half of a signature, begins with another byte: no half of one is another one's.
func TestHalvesAndNumbersAreApart(t *testing.T) {
	seen := map[[32]byte]string{}
	meet := func(what string, d []byte) {
		if other := seen[[32]byte(d)]; other != "" {
			t.Errorf("%s and %s are one hash", what, other)
		}
		seen[[32]byte(d)] = what
	}
	for _, key := range goodKeys() {
		sig := signed(t, key, nil)
		id, _ := sign.Id(key)
		meet("a first half", sig[:32])
		meet("a second half", sig[32:])
		meet("a number", id[:])
	}
}

// P6.4

func TestMarksTellTheirSignatures(t *testing.T) {
	for _, msg := range messages() {
		sig := signed(t, []byte("k"), msg)
		b := sign.Mark(sig)
		back, e := sign.Unmark(b)
		if e != api.OK || back != sig {
			t.Fatalf("Unmark of Mark of %x: %x, error %d", sig, back, e)
		}
		wantVerify(t, "what was marked", []byte("k"), msg, back, true)
		if again := sign.Mark(back); !bytes.Equal(again, b) {
			t.Errorf("Mark of Unmark of %x: %x", b, again)
		}
	}
}

func FuzzUnmark(f *testing.F) {
	f.Add(sign.Mark(signature{}))
	f.Add(sign.Mark(signature(anyBytes(1, sigBytes))))
	f.Add([]byte{8, 7, 0, 64})
	f.Add([]byte{})
	f.Fuzz(func(t *testing.T, b []byte) {
		sig, e := sign.Unmark(b)
		if e == api.OK {
			if again := sign.Mark(sig); !bytes.Equal(again, b) {
				t.Errorf("Mark of Unmark of %x: %x", b, again)
			}
			return
		}
		wantNoMark(t, "what is no mark", b)
		if len(b) == markSize && bytes.HasPrefix(b, []byte{8, 7, 0, 64}) {
			t.Errorf("a mark is none: %x", b)
		}
	})
}

func FuzzSign(f *testing.F) {
	f.Add([]byte("k"), []byte("m"))
	f.Add([]byte{}, []byte{})
	f.Add(make([]byte, mostKey+1), []byte("m"))
	f.Fuzz(func(t *testing.T, key, msg []byte) {
		sig, e := sign.Sign(key, msg)
		id, f := sign.Id(key)
		may := len(key) >= 1 && len(key) <= mostKey
		if sign.May(key) != may || (e == api.OK) != may || f != e {
			t.Fatalf("of a key of %d bytes: errors %d and %d", len(key), e, f)
		}
		if !may {
			if e != api.ErrArg || sig != (signature{}) || id != (api.Digest{}) {
				t.Errorf("error %d, %x, %x", e, sig, id)
			}
			wantVerify(t, "a key that may not be", key, msg, sig, false)
			return
		}
		wantSigned(t, key, msg)
		wantVerify(t, "what was signed", key, msg, sig, true)
	})
}

// R3

func TestWhatIsHandedInIsOnlyRead(t *testing.T) {
	key, msg := inRoom(anyBytes(1, 30)), inRoom(anyBytes(2, 70))
	wasKey, wasMsg := bytes.Clone(key[:cap(key)]), bytes.Clone(msg[:cap(msg)])
	sig := signed(t, key, msg)
	sign.Verify(key, msg, sig)
	sign.Id(key)
	mark := inRoom(markOf(sig))
	wasMark := bytes.Clone(mark[:cap(mark)])
	sign.Unmark(mark)
	for _, x := range [][2][]byte{{key[:cap(key)], wasKey}, {msg[:cap(msg)], wasMsg}, {mark[:cap(mark)], wasMark}} {
		if !bytes.Equal(x[0], x[1]) {
			t.Errorf("%x became %x", x[1], x[0])
		}
	}
}

func TestMarksAreNewMemory(t *testing.T) {
	sig := signature(anyBytes(3, sigBytes))
	one, two := sign.Mark(sig), sign.Mark(sig)
	spoil(one)
	if !bytes.Equal(two, markOf(sig)) {
		t.Errorf("two marks share memory")
	}
	spoil(two)
	wantMark(t, sig)
}

// R7

func TestManyAtOnce(t *testing.T) {
	var all sync.WaitGroup
	for g := range 8 {
		all.Go(func() {
			for i := range 50 {
				key, msg := anyBytes(uint64(g), 1+i), anyBytes(uint64(i), g*40)
				sig, e := sign.Sign(key, msg)
				if e != api.OK || sig != signatureOf(key, msg) || !sign.Verify(key, msg, sig) {
					t.Errorf("Sign of %d bytes, among others: %x, error %d", len(msg), sig, e)
				}
			}
		})
	}
	all.Wait()
}
