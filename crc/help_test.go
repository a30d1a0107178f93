package crc_test

import (
	"bytes"
	"slices"
	"testing"

	"escritoire/crc"
)

// known are texts whose sums are told where CRC-32 is told of.
var known = []struct {
	text string
	sum  uint32
}{
	{"", 0},
	{"a", 0xe8b7be43},
	{"abc", 0x352441c2},
	{"123456789", 0xcbf43926},
	{"message digest", 0x20159d7f},
	{"abcdefghijklmnopqrstuvwxyz", 0x4c2750bd},
	{"The quick brown fox jumps over the lazy dog", 0x414fa339},
	{"\x00", 0xd202ef8d},
	{"\xff", 0xff000000},
	{"\xff\xff\xff\xff", 0xffffffff},
	{"\x00\x00\x00\x00", 0x2144df1c},
	{string(make([]byte, 32)), 0x190a55ad},
	{string(bytes.Repeat([]byte{0xff}, 32)), 0xff6cab0b},
}

// anyBytes are n bytes of a seed, by a rule of their own.
func anyBytes(seed uint64, n int) []byte {
	out := make([]byte, n)
	for i := range out {
		seed = seed*6364136223846793005 + 1442695040888963407
		out[i] = byte(seed >> 56)
	}
	return out
}

// texts are some of so many bytes: any, and such as are all alike.
func texts(n int) [][]byte {
	return [][]byte{anyBytes(uint64(n), n), make([]byte, n), bytes.Repeat([]byte{0xff}, n), bytes.Repeat([]byte{0x80}, n), bytes.Repeat([]byte{1}, n)}
}

// sumOf is the sum as the chapter tells it, by numbers that are halved, and bits that stand in a list, the lowest first.
func sumOf(b []byte) uint32 {
	bits := slices.Repeat([]int{1}, 32)
	turn := bitsOf(0xedb88320)
	for _, c := range b {
		bits = xored(bits, bitsOf(uint32(c)))
		for range 8 {
			lowest := bits[0]
			bits = append(slices.Clone(bits[1:]), 0)
			if lowest == 1 {
				bits = xored(bits, turn)
			}
		}
	}
	var out, one uint32 = 0, 1
	for _, x := range bits {
		if x == 0 {
			out += one
		}
		one *= 2
	}
	return out
}

// bitsOf are the 32 bits of a number, the lowest first.
func bitsOf(n uint32) []int {
	out := make([]int, 32)
	for i := range out {
		out[i] = int(n % 2)
		n /= 2
	}
	return out
}

func xored(a, b []int) []int {
	out := make([]int, len(a))
	for i := range out {
		out[i] = (a[i] + b[i]) % 2
	}
	return out
}

// highestFirst are the bytes of a sum.
func highestFirst(sum uint32) []byte {
	return []byte{byte(sum / 0x1000000), byte(sum / 0x10000 % 256), byte(sum / 0x100 % 256), byte(sum % 256)}
}

// turned are bytes with the bits of a pattern turned, from a bit on: each byte's lowest bit is its first, as it is the first to go out. There must be room for them.
func turned(b []byte, from int, pattern uint32) []byte {
	out := bytes.Clone(b)
	for i, x := range bitsOf(pattern) {
		if x == 1 {
			out[(from+i)/8] ^= 1 << ((from + i) % 8)
		}
	}
	return out
}

// independent tells whether no xor of some of the numbers is 0.
func independent(l []uint32) bool {
	l = slices.Clone(l)
	for i, x := range l {
		if x == 0 {
			return false
		}
		lowest := x & -x
		for k := i + 1; k < len(l); k++ {
			if l[k]&lowest != 0 {
				l[k] ^= x
			}
		}
	}
	return true
}

func wantSum(t *testing.T, what string, got, want uint32) {
	t.Helper()
	if got != want {
		t.Fatalf("%s: %08x, want %08x", what, got, want)
	}
}

// wantTaken wants Take to tell these bytes.
func wantTaken(t *testing.T, what string, frame, want []byte) {
	t.Helper()
	if got, is := crc.Take(frame); !is || !bytes.Equal(got, want) {
		t.Fatalf("%s: Take of % x tells % x, %v, want % x", what, frame, got, is, want)
	}
}

// wantNone wants Take to tell that there is nothing.
func wantNone(t *testing.T, what string, frame []byte) {
	t.Helper()
	if got, is := crc.Take(frame); is || len(got) != 0 {
		t.Fatalf("%s: Take of % x tells % x, %v, want nothing", what, frame, got, is)
	}
}

// spoil changes each byte, up to where the room ends: whoever shares memory with b is found by that.
func spoil(b []byte) {
	b = b[:cap(b)]
	for i := range b {
		b[i] ^= 0xff
	}
}
