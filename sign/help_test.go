package sign_test

import (
	"bytes"
	"crypto/sha256"
	"slices"
	"testing"

	"escritoire/api"
	"escritoire/sign"
)

// The document's limits, in numbers of the tests' own.
const (
	mostKey  = 64
	sigBytes = 64
	markSize = 68
)

// Known signatures and numbers: of "m" by "k", and of no bytes by "key".
const (
	knownSig = "fd238b689967a45f157ac3ee19212035872014aa41c21a58312d8fffab44a5d152171a202f926f118bc989481ae5eb137480d6a48b5c039f3bbca5d899c0ee30"
	knownId  = "f6dc1034b093dd79d1b96f328cb1e489ff00868c9a1fdb2f1f929e5bf31f9e51"
	emptySig = "e67b0ed5b912877b1ef797e4c4937437a981933d360415bc494a11b9befb846ebf19875b6f0de50d473657bf916672c7817509d6bcbd40dfb7eef7c66dfda542"
	emptyId  = "fd97ae9017e75f0514b0133891e41734d342ae6ffe97cde333114936dc1a9aa5"
)

// signature is that of the package's calls.
type signature = [sigBytes]byte

// anyBytes are n bytes of a seed, by a rule of their own.
func anyBytes(seed uint64, n int) []byte {
	out := make([]byte, n)
	for i := range out {
		seed = seed*6364136223846793005 + 1442695040888963407
		out[i] = byte(seed >> 56)
	}
	return out
}

// goodKeys are keys that may be, each of another size.
func goodKeys() [][]byte {
	out := [][]byte{[]byte("k")}
	for n := 2; n <= mostKey; n++ {
		out = append(out, anyBytes(uint64(n), n))
	}
	return out
}

// badKeys are keys that may not be, by what is wrong with them.
func badKeys() map[string][]byte {
	return map[string][]byte{
		"nil":                   nil,
		"empty":                 {},
		"one byte too long":     anyBytes(1, mostKey+1),
		"noughts":               make([]byte, mostKey+1),
		"twice as long":         anyBytes(2, 2*mostKey),
		"of 255":                anyBytes(3, 255),
		"a byte's end":          anyBytes(4, 256),
		"a byte's end and more": anyBytes(5, 257),
		"a byte's end and most": anyBytes(6, 256+mostKey),
		"two bytes' end":        anyBytes(7, 1<<16+1),
	}
}

// messages are of the sizes at which a hash takes another block, and others.
func messages() [][]byte {
	out := [][]byte{nil, {}, []byte("m"), []byte("n"), {0}, {0, 0}, anyBytes(8, 1<<12), anyBytes(9, 1<<16+3)}
	for n := range 131 {
		out = append(out, anyBytes(uint64(n), n))
	}
	return out
}

// signatureOf is the signature of msg by key as the document tells it, whether the key may be or not: both texts are put together in whole, and hashed by the library.
func signatureOf(key, msg []byte) signature {
	behind := slices.Concat([]byte{byte(len(key))}, key, msg)
	first := sha256.Sum256(slices.Concat([]byte{1}, behind))
	second := sha256.Sum256(slices.Concat([]byte{2}, first[:], behind))
	return signature(slices.Concat(first[:], second[:]))
}

// markOf is the mark of sig as the document tells it.
func markOf(sig signature) []byte {
	return slices.Concat([]byte{8, 7, 0, 64}, sig[:])
}

// signed is the signature of msg by a key that may be.
func signed(t *testing.T, key, msg []byte) signature {
	t.Helper()
	sig, e := sign.Sign(key, msg)
	if e != api.OK {
		t.Fatalf("Sign by a key of %d bytes: error %d", len(key), e)
	}
	return sig
}

func wantSigned(t *testing.T, key, msg []byte) {
	t.Helper()
	if got, want := signed(t, key, msg), signatureOf(key, msg); got != want {
		t.Errorf("Sign of %d bytes by %x: got %x, want %x", len(msg), key, got, want)
	}
}

func wantVerify(t *testing.T, what string, key, msg []byte, sig signature, want bool) {
	t.Helper()
	if got := sign.Verify(key, msg, sig); got != want {
		t.Errorf("%s: Verify by %.80x of %d bytes tells %v, want %v", what, key, len(msg), got, want)
	}
}

func wantNoMark(t *testing.T, what string, b []byte) {
	t.Helper()
	sig, e := sign.Unmark(b)
	if e != api.ErrForm {
		t.Errorf("%s: Unmark of %d bytes tells error %d, want ErrForm", what, len(b), e)
	}
	if sig != (signature{}) {
		t.Errorf("%s: beside an error Unmark tells %x", what, sig)
	}
}

func wantMark(t *testing.T, sig signature) {
	t.Helper()
	b := sign.Mark(sig)
	if want := markOf(sig); !bytes.Equal(b, want) {
		t.Errorf("Mark: got %x, want %x", b, want)
	}
	back, e := sign.Unmark(b)
	if e != api.OK || back != sig {
		t.Errorf("Unmark of what Mark tells of %x: got %x, error %d", sig, back, e)
	}
}

// spoil changes each byte, up to where its room ends: whoever shares memory with b is found by that.
func spoil(b []byte) {
	b = b[:cap(b)]
	for i := range b {
		b[i] ^= 0xff
	}
}

// inRoom is b with room behind it, which has bytes of its own.
func inRoom(b []byte) []byte {
	out := append(bytes.Clone(b), 0xaa, 0xbb, 0xcc)
	return out[:len(b)]
}
