package wal

import (
	"strconv"
	"strings"

	"escritoire/api"
)

const (
	prefix   = "wal-"
	digits   = 8        // of a segment's number
	greatest = 99999999 // number of a segment
)

// Name is the name of a segment's file.
func Name(segment int) (string, api.Errno) {
	if segment < 1 || segment > greatest {
		return "", api.ErrArg
	}
	return nameOf(segment), api.OK
}

// nameOf is the name of a segment that may be.
func nameOf(segment int) string {
	n := strconv.Itoa(segment)
	return prefix + strings.Repeat("0", digits-len(n)) + n
}

// numberOf is the number of the segment that has that name, if one may have it.
func numberOf(name string) (int, bool) {
	number, is := strings.CutPrefix(name, prefix)
	if !is || len(number) != digits {
		return 0, false
	}
	n := 0
	for _, c := range number {
		if c < '0' || c > '9' {
			return 0, false
		}
		n = 10*n + int(c-'0')
	}
	return n, n > 0
}
