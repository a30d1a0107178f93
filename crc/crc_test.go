package crc_test

import (
	"bytes"
	"hash/crc32"
	"math"
	"strings"
	"testing"

	"escritoire/crc"
)

// The chapter's examples, as they stand there.
func TestExamples(t *testing.T) {
	wantSum(t, `Sum("123456789")`, crc.Sum([]byte("123456789")), 0xcbf43926)
	wantSum(t, "Sum(none)", crc.Sum(nil), 0)
	wantSum(t, `More(Sum("123"), "456789")`, crc.More(crc.Sum([]byte("123")), []byte("456789")), 0xcbf43926)
	wantTaken(t, `Put("ab")`, crc.Put([]byte("ab")), []byte("ab"))
	wantNone(t, "three bytes", []byte{1, 2, 3})
}

// P14.1

func TestSumOfKnownTexts(t *testing.T) {
	for _, x := range known {
		wantSum(t, "Sum of "+x.text, crc.Sum([]byte(x.text)), x.sum)
		wantSum(t, "the tests' own sum of "+x.text, sumOf([]byte(x.text)), x.sum)
	}
	wantSum(t, "Sum of an empty one", crc.Sum([]byte{}), 0)
}

func TestSumOfEachByte(t *testing.T) {
	for c := range 256 {
		for _, b := range [][]byte{{byte(c)}, {byte(c), 0}, {0, byte(c)}, {byte(c), byte(c), byte(c)}} {
			wantSum(t, "Sum", crc.Sum(b), sumOf(b))
		}
	}
}

func TestSumOfEachLength(t *testing.T) {
	for n := range 140 {
		for _, b := range texts(n) {
			wantSum(t, "Sum", crc.Sum(b), crc32.ChecksumIEEE(b))
			wantSum(t, "Sum", crc.Sum(b), sumOf(b))
		}
	}
}

func TestSumOfMany(t *testing.T) {
	for _, n := range []int{4095, 4096, 4097, 65535, 65536, 65537, 1<<20 + 1} {
		b := anyBytes(1, n)
		wantSum(t, "Sum", crc.Sum(b), crc32.ChecksumIEEE(b))
	}
}

// The sum is that of the bytes alone, not of the room behind them; they are read alone.
func TestSumReadsAlone(t *testing.T) {
	room := []byte("123456789 and more")
	wantSum(t, "Sum", crc.Sum(room[:9]), 0xcbf43926)
	wantSum(t, "More", crc.More(0, room[:9]), 0xcbf43926)
	wantSum(t, "Sum again", crc.Sum(room[:9]), 0xcbf43926)
	if string(room) != "123456789 and more" {
		t.Errorf("what was handed in has changed: %q", room)
	}
}

// Any number is the sum of some bytes: More goes on from each.
func TestMoreOfAnySum(t *testing.T) {
	sums := []uint32{0, 1, 2, 0x7fffffff, 0x80000000, 0xedb88320, 0x12345678, 0xcbf43926, 0xff000000, math.MaxUint32 - 1, math.MaxUint32}
	for i := range 32 {
		sums = append(sums, 1<<i)
	}
	for _, sum := range sums {
		wantSum(t, "More of nil", crc.More(sum, nil), sum)
		wantSum(t, "More of an empty one", crc.More(sum, []byte{}), sum)
		for n := range 40 {
			for _, b := range texts(n) {
				wantSum(t, "More", crc.More(sum, b), crc32.Update(sum, crc32.IEEETable, b))
			}
		}
	}
}

// P14.2: Put

func TestPut(t *testing.T) {
	for n := range 140 {
		for _, b := range texts(n) {
			want := append(bytes.Clone(b), highestFirst(sumOf(b))...)
			if got := crc.Put(b); !bytes.Equal(got, want) {
				t.Fatalf("Put of % x: % x, want % x", b, got, want)
			}
		}
	}
	for _, x := range known {
		want := x.text + string(highestFirst(x.sum))
		if got := crc.Put([]byte(x.text)); string(got) != want {
			t.Errorf("Put of %q: % x, want % x", x.text, got, want)
		}
	}
	for _, none := range [][]byte{nil, {}} {
		if got := crc.Put(none); !bytes.Equal(got, []byte{0, 0, 0, 0}) {
			t.Errorf("Put of none: % x", got)
		}
	}
	if got := crc.Put([]byte("123456789")); !bytes.Equal(got[9:], []byte{0xcb, 0xf4, 0x39, 0x26}) {
		t.Errorf("Put of 123456789: % x", got)
	}
}

// P14.2: Take

func TestTakeOfPut(t *testing.T) {
	for n := range 300 {
		for _, b := range texts(n) {
			wantTaken(t, "Put", crc.Put(b), b)
			twice := crc.Put(crc.Put(b))
			wantTaken(t, "Put of Put", twice, crc.Put(b))
		}
	}
	b := anyBytes(2, 1<<16)
	wantTaken(t, "Put of many", crc.Put(b), b)
	wantTaken(t, "Put of none", []byte{0, 0, 0, 0}, nil)
}

func TestTakeOfTooFewBytes(t *testing.T) {
	for n := range 4 {
		for _, b := range texts(n) {
			wantNone(t, "too few bytes", b)
		}
	}
	wantNone(t, "nil", nil)
	frame := crc.Put([]byte("ab"))
	for n := range frame {
		wantNone(t, "a beginning of a frame", frame[:n:n])
		wantNone(t, "a beginning of a frame that goes on in the room", frame[:n])
	}
}

func TestTakeOfOtherBytes(t *testing.T) {
	for n := range 70 {
		b := anyBytes(3, n)
		frame := crc.Put(b)
		sum := frame[n:]
		for what, x := range map[string][]byte{
			"no sum":                b,
			"a byte behind it":      append(bytes.Clone(frame), 0),
			"a byte ahead of it":    append([]byte{0}, frame...),
			"the sum's last alone":  append(bytes.Clone(b), sum[3]),
			"the sum turned over":   append(bytes.Clone(b), ^sum[0], ^sum[1], ^sum[2], ^sum[3]),
			"the sum of other ones": append(bytes.Clone(b), crc.Put(append([]byte{7}, b...))[n+1:]...),
		} {
			wantNone(t, what, x)
		}
		if n > 0 { // of no bytes, the sum is four noughts
			wantNone(t, "the sum ahead of it", append(bytes.Clone(sum), b...))
			wantNone(t, "the sum's lowest byte first", append(bytes.Clone(b), sum[3], sum[2], sum[1], sum[0]))
			wantNone(t, "noughts in the sum's place", append(bytes.Clone(b), 0, 0, 0, 0))
		}
	}
}

// Whatever four bytes stand behind some bytes, only their sum is taken.
func TestTakeOfEachSumNearby(t *testing.T) {
	b := []byte("abc")
	sum := crc32.ChecksumIEEE(b)
	for d := range uint32(1000) {
		for _, x := range []uint32{sum + d, sum - d, sum + d<<8, sum + d<<16, sum + d<<22} {
			frame := append(bytes.Clone(b), highestFirst(x)...)
			if x == sum {
				wantTaken(t, "the sum", frame, b)
			} else {
				wantNone(t, "another sum", frame)
			}
		}
	}
}

// What is handed in has room behind it, which an append in place would write to; what is told has none.
func TestFramesAreNewMemory(t *testing.T) {
	for n := range 40 {
		room := anyBytes(5, n+30)
		want := bytes.Clone(room)
		b := room[:n]
		frame := crc.Put(b)
		whole := append(bytes.Clone(frame), "room"...)
		data, is := crc.Take(whole[:n+4])
		if !is || !bytes.Equal(room, want) || !bytes.Equal(whole, append(bytes.Clone(frame), "room"...)) {
			t.Fatalf("what was handed in has changed: % x, % x", room, whole)
		}
		if cap(frame) != n+4 || cap(data) != n {
			t.Fatalf("room is left: %d of %d bytes, %d of %d", cap(frame), n+4, cap(data), n)
		}
		spoil(room)
		spoil(whole)
		wantTaken(t, "Put, behind a change of what was handed in", frame, want[:n])
		if !bytes.Equal(data, want[:n]) {
			t.Fatalf("Take, behind a change of what was handed in: % x", data)
		}
		spoil(frame)
		spoil(data)
		spoil(room)
		if !bytes.Equal(room, want) {
			t.Fatalf("what was handed in is shared with what was told: % x", room)
		}
	}
}

// P14.3

func TestSumInParts(t *testing.T) {
	for n := range 40 {
		b := anyBytes(7, n)
		want := sumOf(b)
		for i := range n + 1 {
			first := crc.Sum(b[:i])
			wantSum(t, "two parts", crc.More(first, b[i:]), want)
			wantSum(t, "two parts, from none on", crc.More(crc.More(0, b[:i]), b[i:]), want)
			for k := i; k <= n; k++ {
				wantSum(t, "three parts", crc.More(crc.More(first, b[i:k]), b[k:]), want)
			}
		}
		one := uint32(0)
		for i := range n {
			one = crc.More(one, b[i:i+1])
			wantSum(t, "byte by byte", one, sumOf(b[:i+1]))
			one = crc.More(one, nil)
		}
		wantSum(t, "byte by byte", one, want)
	}
}

func TestSumOfManyInParts(t *testing.T) {
	b := anyBytes(8, 10000)
	for _, most := range []int{1, 2, 7, 8, 255, 256, 4096, 9999} {
		sum := uint32(0)
		for left := b; len(left) > 0; {
			n := min(most, len(left))
			sum = crc.More(sum, left[:n])
			left = left[n:]
		}
		wantSum(t, "parts", sum, crc32.ChecksumIEEE(b))
	}
}

// P14.4

// By what the sum is changed hangs on which bits were turned, not on the bytes: so what holds for some bytes holds for all of as many. Whoever turns some bits of a stretch changes the sum by the xor of what each of them changes it by: there are as many unlike changes as bits that may be turned, if no such xor is 0.
func TestStretches(t *testing.T) {
	for n := range 40 {
		for from := 0; from < 8*n; from++ {
			many := min(32, 8*n-from)
			var changes [][]uint32
			for _, b := range texts(n) {
				var l []uint32
				for i := range many {
					l = append(l, crc.Sum(b)^crc.Sum(turned(b, from+i, 1)))
				}
				if !independent(l) {
					t.Fatalf("of %d bytes, bits from %d on: some do not change the sum", n, from)
				}
				changes = append(changes, l)
			}
			for _, l := range changes {
				for i, x := range l {
					wantSum(t, "what the sum is changed by", x, changes[0][i])
				}
			}
		}
	}
}

// The same by trying: stretches of each length, at each place, with any bits turned.
func TestStretchesThatAreTried(t *testing.T) {
	for n := 1; n <= 24; n++ {
		b := anyBytes(11, n)
		sum := crc.Sum(b)
		for from := range 8 * n {
			for long := 1; long <= min(32, 8*n-from); long++ {
				ends := uint32(1)<<(long-1) | 1
				most := uint32(math.MaxUint32) >> (32 - long)
				for _, pattern := range []uint32{ends, most, ends | most&0x5a5a5a5a, ends | most&0xedb88320, ends | most&0x10325476, ends | most&0x8000} {
					if x := turned(b, from, pattern); crc.Sum(x) == sum {
						t.Fatalf("% x and % x have one sum", b, x)
					}
				}
			}
		}
	}
}

// All there is of two bytes has unlike sums.
func TestShortTextsHaveUnlikeSums(t *testing.T) {
	seen := map[uint32]bool{}
	for i := range 1 << 16 {
		seen[crc.Sum([]byte{byte(i >> 8), byte(i)})] = true
	}
	if len(seen) != 1<<16 {
		t.Errorf("%d sums of two bytes", len(seen))
	}
}

func TestNoFrameWithOneBitTurned(t *testing.T) {
	for n := range 70 {
		for _, b := range texts(n) {
			frame := crc.Put(b)
			for i := range 8 * len(frame) {
				wantNone(t, "one bit turned", turned(frame, i, 1))
			}
		}
	}
	frame := crc.Put(anyBytes(13, 4096))
	for i := 0; i < 8*len(frame); i += 61 {
		wantNone(t, "one bit turned", turned(frame, i, 1))
	}
}

// P7: bytes may be any.
func FuzzSums(f *testing.F) {
	for _, x := range known {
		f.Add([]byte(x.text), uint32(0), 3)
	}
	f.Add(crc.Put([]byte("ab")), uint32(7), 2)
	f.Add([]byte(strings.Repeat("ab", 50)), uint32(math.MaxUint32), 64)
	f.Fuzz(func(t *testing.T, b []byte, sum uint32, at int) {
		at = min(max(at, 0), len(b))
		wantSum(t, "Sum", crc.Sum(b), crc32.ChecksumIEEE(b))
		wantSum(t, "parts", crc.More(crc.Sum(b[:at]), b[at:]), crc.Sum(b))
		wantSum(t, "More", crc.More(sum, b), crc32.Update(sum, crc32.IEEETable, b))
		frame := crc.Put(b)
		wantTaken(t, "Put", frame, b)
		wantNone(t, "one bit turned", turned(frame, at, 1))
		data, is := crc.Take(b)
		if is && !bytes.Equal(crc.Put(data), b) || !is && len(data) != 0 {
			t.Fatalf("Take of % x: % x, %v", b, data, is)
		}
	})
}
