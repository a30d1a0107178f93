package wal

import (
	"escritoire/api"
	"escritoire/crc"
	"escritoire/wire"
)

// size is how many bytes a frame's length has, and its sum.
const size = 4

// Frame is a record with its length and its sum ahead of it.
func Frame(data []byte) ([]byte, api.Errno) {
	if len(data) < 1 {
		return nil, api.ErrArg
	}
	if len(data) > api.MaxRecord {
		return nil, api.ErrLong
	}
	// Both are numbers of that size, so that neither call tells an error.
	head, _ := wire.Num(nil, uint64(len(data)), size)
	head, _ = wire.Num(head, uint64(crc.Sum(data)), size)
	return append(head, data...), api.OK
}

// Split is the records whose frames stand in b, from its first byte on, up to the first place without one.
func Split(b []byte) [][]byte {
	var out [][]byte
	r := wire.New(b)
frames:
	for {
		var head [2]uint64 // the length, and the sum
		for i := range head {
			n, e := r.Num(size)
			if e != api.OK {
				break frames
			}
			head[i] = n
		}
		// No frame is longer, though as many bytes may stand there.
		if head[0] < 1 || head[0] > api.MaxRecord {
			break frames
		}
		data, e := r.Take(int(head[0]))
		if e != api.OK || uint64(crc.Sum(data)) != head[1] {
			break frames
		}
		out = append(out, data)
	}
	return out
}
