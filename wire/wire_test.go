package wire_test

import (
	"bytes"
	"math"
	"testing"

	"escritoire/api"
	"escritoire/wire"
)

// sizes are the sizes of numbers, and the greatest number of each.
var sizes = []struct {
	size     int
	greatest uint64
}{
	{1, 1<<8 - 1},
	{2, 1<<16 - 1},
	{3, 1<<24 - 1},
	{4, 1<<32 - 1},
	{8, math.MaxUint64},
}

// noSizes are sizes that no number has.
var noSizes = []int{0, 5, 6, 7, 9, 16, 64, 256 + 1, 1<<32 + 1, -1, -2, -8, math.MaxInt, math.MinInt}

// noVectorSizes are sizes that no vector has, though a number may.
var noVectorSizes = append([]int{4, 8}, noSizes...)

// highestFirst is n's bytes, worked out by division rather than by shifts.
func highestFirst(n uint64, size int) []byte {
	out := make([]byte, size)
	for i := size - 1; i >= 0; i-- {
		out[i] = byte(n % 256)
		n /= 256
	}
	return out
}

// numbersOf are some numbers of a size: the ends, and one with unlike bytes.
func numbersOf(size int, greatest uint64) []uint64 {
	return []uint64{0, 1, 0x7f, 0x80, 0xff, greatest / 2, greatest/2 + 1, greatest - 1, greatest, 0x0102030405060708 >> (8 * (8 - size))}
}

func wantBytes(t *testing.T, what string, got []byte, e api.Errno, want []byte) {
	t.Helper()
	if e != api.OK || !bytes.Equal(got, want) {
		t.Errorf("%s: got % x, error %d, want % x", what, got, e, want)
	}
}

func wantError(t *testing.T, what string, got []byte, e, want api.Errno) {
	t.Helper()
	if e != want || len(got) != 0 {
		t.Errorf("%s: got % x, error %d, want error %d and nothing beside it", what, got, e, want)
	}
}

func wantNumber(t *testing.T, what string, got uint64, e api.Errno, want uint64) {
	t.Helper()
	if e != api.OK || got != want {
		t.Errorf("%s: got %d, error %d, want %d", what, got, e, want)
	}
}

func wantNumberError(t *testing.T, what string, got uint64, e, want api.Errno) {
	t.Helper()
	if e != want || got != 0 {
		t.Errorf("%s: got %d, error %d, want 0, error %d", what, got, e, want)
	}
}

func wantLeft(t *testing.T, r *wire.Reader, want int) {
	t.Helper()
	if got := r.Left(); got != want {
		t.Errorf("Left: got %d, want %d", got, want)
	}
}

// readersOfNobody are some that New did not make.
func readersOfNobody() map[string]*wire.Reader {
	return map[string]*wire.Reader{"nil": nil, "zero": {}, "new": new(wire.Reader)}
}

// P1.1

func TestNumLaysDown(t *testing.T) {
	for _, s := range sizes {
		for _, n := range numbersOf(s.size, s.greatest) {
			for _, b := range [][]byte{nil, {}, {7}, {1, 2, 3}} {
				got, e := wire.Num(b, n, s.size)
				wantBytes(t, "Num", got, e, append(bytes.Clone(b), highestFirst(n, s.size)...))
			}
		}
	}
}

func TestNumExamples(t *testing.T) {
	got, e := wire.Num([]byte{7}, 258, 3)
	wantBytes(t, "Num(07, 258, 3)", got, e, []byte{7, 0, 1, 2})
	got, e = wire.Num(nil, 256, 1)
	wantError(t, "Num(none, 256, 1)", got, e, api.ErrLong)
	got, e = wire.Num(nil, 0, 5)
	wantError(t, "Num(none, 0, 5)", got, e, api.ErrArg)
}

func TestNumTooGreat(t *testing.T) {
	for _, s := range sizes {
		if s.greatest == math.MaxUint64 {
			continue
		}
		for _, n := range []uint64{s.greatest + 1, s.greatest * 2, 1 << 63, math.MaxUint64} {
			got, e := wire.Num([]byte{7}, n, s.size)
			wantError(t, "Num of a number too great", got, e, api.ErrLong)
		}
	}
}

func TestNumOfNoSize(t *testing.T) {
	for _, size := range noSizes {
		for _, n := range []uint64{0, 1, math.MaxUint64} {
			got, e := wire.Num([]byte{7}, n, size)
			wantError(t, "Num of no size", got, e, api.ErrArg)
		}
	}
}

func TestVecLaysDown(t *testing.T) {
	for size := 1; size <= 3; size++ {
		for _, data := range [][]byte{nil, {}, {0}, []byte("ab"), bytes.Repeat([]byte{9}, 255)} {
			for _, b := range [][]byte{nil, {}, {7, 8}} {
				want := append(bytes.Clone(b), highestFirst(uint64(len(data)), size)...)
				got, e := wire.Vec(b, data, size)
				wantBytes(t, "Vec", got, e, append(want, data...))
			}
		}
	}
	got, e := wire.Vec(nil, []byte("ab"), 2)
	wantBytes(t, `Vec(none, "ab", 2)`, got, e, []byte{0, 2, 'a', 'b'})
}

func TestVecLongestAndOneTooLong(t *testing.T) {
	for _, s := range sizes[:3] {
		data := make([]byte, s.greatest+1)
		data[0], data[s.greatest-1] = 5, 6
		got, e := wire.Vec([]byte{7}, data, s.size)
		wantError(t, "Vec just too long", got, e, api.ErrLong)
		got, e = wire.Vec([]byte{7}, data[:s.greatest], s.size)
		want := append([]byte{7}, highestFirst(s.greatest, s.size)...)
		if e != api.OK || !bytes.Equal(got, append(want, data[:s.greatest]...)) {
			t.Errorf("Vec of the longest of size %d: error %d, %d bytes", s.size, e, len(got))
		}
	}
}

func TestVecOfNoSize(t *testing.T) {
	tooLongForAny := make([]byte, 1<<24)
	for _, size := range noVectorSizes {
		for _, data := range [][]byte{nil, []byte("ab"), tooLongForAny} {
			got, e := wire.Vec([]byte{7}, data, size)
			wantError(t, "Vec of no size", got, e, api.ErrArg)
		}
	}
}

// What is handed in has room behind it, which an append in place would write to.
func TestLayingDownIsNewMemory(t *testing.T) {
	room := bytes.Repeat([]byte{9}, 16)
	b := room[:1]
	data := []byte("ab")
	one, _ := wire.Num(b, 0x0102, 2)
	two, _ := wire.Vec(b, data, 1)
	if !bytes.Equal(room, bytes.Repeat([]byte{9}, 16)) || string(data) != "ab" {
		t.Errorf("what was handed in has changed: % x, %s", room, data)
	}
	room[0], data[0] = 1, 'z'
	wantBytes(t, "Num, behind a change of what was handed in", one, api.OK, []byte{9, 1, 2})
	wantBytes(t, "Vec, behind a change of what was handed in", two, api.OK, []byte{9, 2, 'a', 'b'})
	one[0], two[2] = 3, 'y'
	if room[0] != 1 || string(data) != "zb" {
		t.Errorf("what was handed in is shared with the answer: % x, %s", room, data)
	}
}

// P1.2

func TestTake(t *testing.T) {
	r := wire.New([]byte("abcde"))
	wantLeft(t, r, 5)
	got, e := r.Take(0)
	wantBytes(t, "Take(0)", got, e, nil)
	wantLeft(t, r, 5)
	got, e = r.Take(2)
	wantBytes(t, "Take(2)", got, e, []byte("ab"))
	wantLeft(t, r, 3)
	for _, n := range []int{4, 5, 256 + 3, 1<<32 + 3, math.MaxInt} {
		got, e = r.Take(n)
		wantError(t, "Take of too many", got, e, api.ErrShort)
		wantLeft(t, r, 3)
	}
	for _, n := range []int{-1, -3, math.MinInt} {
		got, e = r.Take(n)
		wantError(t, "Take of fewer than none", got, e, api.ErrArg)
		wantLeft(t, r, 3)
	}
	got, e = r.Take(3)
	wantBytes(t, "Take of all", got, e, []byte("cde"))
	wantLeft(t, r, 0)
}

func TestReaderAtItsEnd(t *testing.T) {
	emptied := wire.New([]byte{1})
	emptied.Take(1)
	for _, r := range []*wire.Reader{wire.New(nil), wire.New([]byte{}), emptied} {
		wantLeft(t, r, 0)
		b, e := r.Take(0)
		wantBytes(t, "Take(0) at the end", b, e, nil)
		b, e = r.Take(1)
		wantError(t, "Take(1) at the end", b, e, api.ErrShort)
		b, e = r.Take(-1)
		wantError(t, "Take(-1) at the end", b, e, api.ErrArg)
		for _, s := range sizes {
			n, e := r.Num(s.size)
			wantNumberError(t, "Num at the end", n, e, api.ErrShort)
		}
		for size := 1; size <= 3; size++ {
			b, e = r.Vec(size)
			wantError(t, "Vec at the end", b, e, api.ErrShort)
		}
		n, e := r.Num(5)
		wantNumberError(t, "Num of no size at the end", n, e, api.ErrArg)
		b, e = r.Vec(4)
		wantError(t, "Vec of no size at the end", b, e, api.ErrArg)
		wantLeft(t, r, 0)
	}
}

// ErrNil goes ahead of what the arguments are.
func TestReaderThatNewDidNotMake(t *testing.T) {
	for what, r := range readersOfNobody() {
		wantLeft(t, r, 0)
		for _, n := range []int{-1, 0, 1, math.MaxInt} {
			b, e := r.Take(n)
			wantError(t, what+" reader's Take", b, e, api.ErrNil)
		}
		for _, size := range []int{-1, 0, 1, 2, 3, 4, 5, 8} {
			n, e := r.Num(size)
			wantNumberError(t, what+" reader's Num", n, e, api.ErrNil)
			b, e := r.Vec(size)
			wantError(t, what+" reader's Vec", b, e, api.ErrNil)
		}
		wantLeft(t, r, 0)
	}
}

func TestReaderKeepsNothingThatWasHandedIn(t *testing.T) {
	b := []byte{1, 'x', 'y', 0, 5}
	r := wire.New(b)
	for i := range b {
		b[i] = 0xff
	}
	got, e := r.Vec(1)
	wantBytes(t, "Vec, behind a change of what was handed in", got, e, []byte("x"))
	got, e = r.Take(1)
	wantBytes(t, "Take, behind a change of what was handed in", got, e, []byte("y"))
	n, e := r.Num(2)
	wantNumber(t, "Num, behind a change of what was handed in", n, e, 5)
	if !bytes.Equal(b, bytes.Repeat([]byte{0xff}, 5)) {
		t.Errorf("what was handed in has changed: % x", b)
	}
}

// What was taken has no room that the reader still reads, nor the other way round.
func TestTakenIsNewMemory(t *testing.T) {
	b := []byte{2, 'a', 'b', 'c', 'd', 'e'}
	r := wire.New(b)
	vec, _ := r.Vec(1)
	taken, _ := r.Take(1)
	vec[0], taken[0] = 'y', 'z'
	_ = append(vec, 'X', 'X', 'X')
	_ = append(taken, 'X', 'X')
	got, e := r.Take(2)
	wantBytes(t, "Take, behind changes of what was taken", got, e, []byte("de"))
	wantBytes(t, "what was handed in", b, api.OK, []byte{2, 'a', 'b', 'c', 'd', 'e'})
	wantBytes(t, "what was taken", vec, api.OK, []byte("yb"))
}

func TestReadersAreApart(t *testing.T) {
	b := []byte{1, 2, 3}
	one, two := wire.New(b), wire.New(b)
	one.Take(2)
	wantLeft(t, two, 3)
	n, e := two.Num(1)
	wantNumber(t, "Num of another reader", n, e, 1)
}

// P1.3

func TestReaderNum(t *testing.T) {
	for _, s := range sizes {
		for _, n := range numbersOf(s.size, s.greatest) {
			laid := append(highestFirst(n, s.size), 0xee)
			r := wire.New(laid)
			got, e := r.Num(s.size)
			wantNumber(t, "Num", got, e, n)
			wantLeft(t, r, 1)
			for short := range s.size {
				r := wire.New(laid[:short])
				got, e := r.Num(s.size)
				wantNumberError(t, "Num of too few bytes", got, e, api.ErrShort)
				wantLeft(t, r, short)
			}
		}
	}
}

func TestReaderNumOfNoSize(t *testing.T) {
	r := wire.New(bytes.Repeat([]byte{1}, 20))
	for _, size := range noSizes {
		n, e := r.Num(size)
		wantNumberError(t, "Num of no size", n, e, api.ErrArg)
		wantLeft(t, r, 20)
	}
}

func TestReaderVec(t *testing.T) {
	for size := 1; size <= 3; size++ {
		for _, data := range [][]byte{nil, {0}, []byte("ab"), bytes.Repeat([]byte{9}, 255)} {
			laid := append(highestFirst(uint64(len(data)), size), data...)
			r := wire.New(append(bytes.Clone(laid), 0xee))
			got, e := r.Vec(size)
			wantBytes(t, "Vec", got, e, data)
			wantLeft(t, r, 1)
			for short := range laid {
				r := wire.New(laid[:short])
				got, e := r.Vec(size)
				wantError(t, "Vec of too few bytes", got, e, api.ErrShort)
				wantLeft(t, r, short)
			}
		}
	}
}

func TestReaderVecLongest(t *testing.T) {
	for _, s := range sizes[:3] {
		laid := append(highestFirst(s.greatest, s.size), make([]byte, s.greatest)...)
		laid[len(laid)-1] = 6
		r := wire.New(laid[:len(laid)-1])
		got, e := r.Vec(s.size)
		wantError(t, "Vec that is one byte short of the longest", got, e, api.ErrShort)
		wantLeft(t, r, len(laid)-1)
		r = wire.New(laid)
		got, e = r.Vec(s.size)
		if e != api.OK || !bytes.Equal(got, laid[s.size:]) || r.Left() != 0 {
			t.Errorf("Vec of the longest of size %d: error %d, %d bytes, %d left", s.size, e, len(got), r.Left())
		}
	}
}

func TestReaderVecOfNoSize(t *testing.T) {
	r := wire.New(make([]byte, 20))
	for _, size := range noVectorSizes {
		got, e := r.Vec(size)
		wantError(t, "Vec of no size", got, e, api.ErrArg)
		wantLeft(t, r, 20)
	}
}

func TestReaderExample(t *testing.T) {
	r := wire.New([]byte{0, 2, 'a'})
	got, e := r.Vec(2)
	wantError(t, "Vec(2)", got, e, api.ErrShort)
	wantLeft(t, r, 3)
	n, e := r.Num(1)
	wantNumber(t, "Num(1)", n, e, 0)
	got, e = r.Take(3)
	wantError(t, "Take(3)", got, e, api.ErrShort)
	wantLeft(t, r, 2)
}

// P1.4

// step is one thing that is laid down, or taken: a number or a vector of a size, or plain bytes.
type step struct {
	kind int // 0 a number, 1 a vector, 2 plain bytes
	size int // of plain bytes, how many
	n    uint64
	data []byte
}

// rowOf makes a row of steps of a seed, by a rule of its own.
func rowOf(seed uint64, length int) []step {
	next := func(below uint64) uint64 {
		seed = seed*6364136223846793005 + 1442695040888963407
		return (seed >> 33) % below
	}
	out := make([]step, length)
	for i := range out {
		switch next(3) {
		case 0:
			s := sizes[next(5)]
			out[i] = step{kind: 0, size: s.size, n: (next(1<<31)<<33 ^ next(1<<31)) & s.greatest}
		case 1:
			out[i] = step{kind: 1, size: 1 + int(next(3)), data: bytes.Repeat([]byte{byte(next(256))}, int(next(20)))}
		default:
			n := int(next(6))
			out[i] = step{kind: 2, size: n, data: bytes.Repeat([]byte{byte(next(256))}, n)}
		}
	}
	return out
}

// lay lays down a step behind b.
func (s step) lay(t *testing.T, b []byte) []byte {
	t.Helper()
	out, e := append(bytes.Clone(b), s.data...), api.OK
	switch s.kind {
	case 0:
		out, e = wire.Num(b, s.n, s.size)
	case 1:
		out, e = wire.Vec(b, s.data, s.size)
	}
	if e != api.OK {
		t.Fatalf("error %d for %+v", e, s)
	}
	return out
}

// take takes what the step's kind and size say, and tells it as a step.
func (s step) take(r *wire.Reader) (step, api.Errno) {
	got, e := step{kind: s.kind, size: s.size}, api.OK
	switch s.kind {
	case 0:
		got.n, e = r.Num(s.size)
	case 1:
		got.data, e = r.Vec(s.size)
	default:
		got.data, e = r.Take(s.size)
	}
	return got, e
}

func (s step) same(x step) bool {
	return s.kind == x.kind && s.size == x.size && s.n == x.n && bytes.Equal(s.data, x.data)
}

func TestWhatWasLaidDownIsTaken(t *testing.T) {
	for seed := range uint64(200) {
		row := rowOf(seed, 12)
		var b []byte
		for _, s := range row {
			b = s.lay(t, b)
		}
		r := wire.New(b)
		for i, s := range row {
			if got, e := s.take(r); e != api.OK || !got.same(s) {
				t.Fatalf("seed %d, step %d: got %+v, error %d, want %+v", seed, i, got, e, s)
			}
		}
		wantLeft(t, r, 0)
	}
}

// anyBytes are bytes of a seed, most of them small, so that vectors end.
func anyBytes(seed uint64, n int) []byte {
	out := make([]byte, n)
	for i := range out {
		seed = seed*6364136223846793005 + 1442695040888963407
		out[i] = byte(seed>>56) >> (byte(seed>>40) % 8)
	}
	return out
}

func TestWhatWasTakenIsTheBytesThatWent(t *testing.T) {
	for seed := range uint64(400) {
		b := anyBytes(seed, int(seed%60))
		r := wire.New(b)
		var laid []byte
		for _, s := range rowOf(seed+1000, 20) {
			before := r.Left()
			got, e := s.take(r)
			if e != api.OK {
				if e != api.ErrShort || r.Left() != before {
					t.Fatalf("seed %d: error %d, %d left of %d", seed, e, r.Left(), before)
				}
				continue
			}
			laid = got.lay(t, laid)
			wantBytes(t, "laid down again", laid, api.OK, b[:len(b)-r.Left()])
		}
	}
}

// P1.5

func TestReaderOfABeginning(t *testing.T) {
	for seed := range uint64(100) {
		b := anyBytes(seed, 40)
		row := rowOf(seed+5000, 15)
		for cut := range len(b) + 1 {
			all, some := wire.New(b), wire.New(b[:cut])
			for _, s := range row {
				want, wantE := s.take(all)
				got, e := s.take(some)
				if e == api.ErrShort {
					break // from here on the two stand in unlike places
				}
				if e != wantE || !got.same(want) {
					t.Fatalf("seed %d, %d bytes of it: got %+v, error %d, want %+v, error %d, or ErrShort", seed, cut, got, e, want, wantE)
				}
			}
		}
	}
}

// A beginning knows what may not be as well as the whole does.
func TestReaderOfABeginningKnowsWrongArguments(t *testing.T) {
	b := anyBytes(1, 20)
	for cut := range len(b) + 1 {
		r := wire.New(b[:cut])
		n, e := r.Num(7)
		wantNumberError(t, "Num(7)", n, e, api.ErrArg)
		got, e := r.Vec(8)
		wantError(t, "Vec(8)", got, e, api.ErrArg)
		got, e = r.Take(-1)
		wantError(t, "Take(-1)", got, e, api.ErrArg)
		wantLeft(t, r, cut)
	}
}

// A program is one, whatever goroutines there are (R7): readers of their own do not disturb one another.
func TestReadersInGoroutines(t *testing.T) {
	b, _ := wire.Vec(nil, []byte("shared"), 3)
	done := make(chan string)
	for range 8 {
		go func() {
			got, _ := wire.New(b).Vec(3)
			done <- string(got)
		}()
	}
	for range 8 {
		if got := <-done; got != "shared" {
			t.Errorf("got %q", got)
		}
	}
}
