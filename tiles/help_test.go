package tiles_test

import (
	"crypto/sha256"
	"fmt"
	"math"
	"math/big"
	"regexp"
	"slices"
	"strconv"
	"strings"
	"testing"

	"escritoire/api"
	"escritoire/tiles"
)

// The document's limits, in numbers of the tests' own.
const (
	hashBytes  = 32
	width      = 16
	topLevel   = 5
	lastNumber = 999999
	mostLeaves = 1 << 20
)

// named is what a name tells.
type named struct {
	level  int
	number uint64
	width  int
}

// form is that of a name: the numbers are looked at beside it.
var form = regexp.MustCompile(`\At([0-5])-([0-9]{6})-([0-9]{2})\z`)

// read tells what a name tells, if it is one.
func read(name string) (named, bool) {
	m := form.FindStringSubmatch(name)
	if m == nil {
		return named{}, false
	}
	level, _ := strconv.Atoi(m[1])
	number, _ := strconv.Atoi(m[2])
	n, _ := strconv.Atoi(m[3])
	if n < 1 || n > width {
		return named{}, false
	}
	return named{level, uint64(number), n}, true
}

// nameOf is the name of what may be.
func nameOf(x named) string {
	return fmt.Sprintf("t%d-%06d-%02d", x.level, x.number, x.width)
}

// some are those that may be: all levels and widths, and numbers at and around where they get longer.
func some() []named {
	var out []named
	for level := range topLevel + 1 {
		for _, number := range []uint64{0, 1, 2, 9, 10, 11, 15, 16, 99, 100, 255, 256, 999, 1000, 4096, 9999, 10000, 65535, 65536, 99999, 100000, 123456, 654321, 999998, 999999} {
			for n := 1; n <= width; n++ {
				out = append(out, named{level, number, n})
			}
		}
	}
	return out
}

// none are those of which one number may not be.
func none() []named {
	var out []named
	for _, level := range []int{-1, -2, -5, 6, 7, 9, 10, 15, 255, 256, 1<<32 + 1, math.MaxInt, math.MinInt, math.MinInt + 1} {
		out = append(out, named{level, 0, 1}, named{level, 999999, 16}, named{level, 1000000, 0})
	}
	for _, number := range []uint64{1000000, 1000001, 9999999, 10000000, 1 << 20, 1 << 32, 1<<32 + 1, 1 << 63, math.MaxUint64} {
		out = append(out, named{0, number, 1}, named{5, number, 16}, named{6, number, 17})
	}
	for _, n := range []int{0, -1, -2, -16, 17, 18, 32, 99, 100, 256, 257, 1<<32 + 1, math.MaxInt, math.MinInt, math.MinInt + 1} {
		out = append(out, named{0, 0, n}, named{5, 999999, n}, named{-1, 1000000, n})
	}
	return out
}

func wantParse(t *testing.T, name string) {
	t.Helper()
	level, number, n, e := tiles.Parse(name)
	got := named{level, number, n}
	want, is := read(name)
	if is && (e != api.OK || got != want) || !is && (e != api.ErrForm || got != named{}) {
		t.Errorf("Parse(%q): %v, error %d, want %v, %v", name, got, e, want, is)
	}
}

// countOf is how many hashes there are, by counting in numbers without end.
func countOf(size uint64, level int) uint64 {
	if level < 0 || level > topLevel {
		return 0
	}
	n := new(big.Int).SetUint64(size)
	return n.Div(n, new(big.Int).Exp(big.NewInt(width), big.NewInt(int64(level)), nil)).Uint64()
}

// hashOf is a hash of its own for each number.
func hashOf(n int) api.Digest {
	return sha256.Sum256([]byte(strconv.Itoa(n)))
}

// hashesOf are those of the numbers from one up to another, without that.
func hashesOf(from, to int) []api.Digest {
	var out []api.Digest
	for n := from; n < to; n++ {
		out = append(out, hashOf(n))
	}
	return out
}

// bytesOf are the bytes of hashes, whatever their number.
func bytesOf(l []api.Digest) string {
	var out strings.Builder
	for _, hash := range l {
		for _, c := range hash {
			out.WriteByte(c)
		}
	}
	return out.String()
}

// headOf is the head of as many hashes as a power of 2, pair by pair.
func headOf(l []api.Digest) api.Digest {
	for l = slices.Clone(l); len(l) > 1; l = l[:len(l)/2] {
		for i := range len(l) / 2 {
			l[i] = sha256.Sum256([]byte("\x01" + bytesOf(l[2*i:2*i+2])))
		}
	}
	return l[0]
}

// spoil changes each byte, up to where the room ends: whoever shares memory with b is found by that.
func spoil(b []byte) {
	b = b[:cap(b)]
	for i := range b {
		b[i] ^= 0xff
	}
}

// spoilHashes does so to hashes.
func spoilHashes(l []api.Digest) {
	l = l[:cap(l)]
	for i := range l {
		spoil(l[i][:])
	}
}

// lottery tells numbers of a seed, by a rule of its own.
type lottery uint64

// below is a number from 0 on below n.
func (l *lottery) below(n int) int {
	*l = *l*6364136223846793005 + 1442695040888963407
	return int(uint64(*l)>>33) % n
}
