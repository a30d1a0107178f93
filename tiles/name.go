package tiles

import (
	"strconv"
	"strings"

	"escritoire/api"
)

// field is where a number stands in a name.
type field struct {
	ahead       string // what stands ahead of it
	digits      int
	least, most uint64
}

// fields are those of a name: level, number and width.
func fields() [3]field {
	return [...]field{{"t", 1, 0, top}, {"-", 6, 0, 999999}, {"-", 2, 1, api.Width}}
}

// Name is the name of a tile.
func Name(level int, number uint64, width int) (string, api.Errno) {
	// What is below 0 is, without its sign, more than any of them may be.
	name, may := lay(uint64(level), number, uint64(width))
	if !may {
		return "", api.ErrArg
	}
	return name, api.OK
}

// Parse is the level, the number and the width of the tile that has that name.
func Parse(name string) (int, uint64, int, api.Errno) {
	var level, number, width uint64
	if !cut(name, &level, &number, &width) {
		return 0, 0, 0, api.ErrForm
	}
	return int(level), number, int(width), api.OK
}

// lay is the name that has a row of numbers, if they may be.
func lay(row ...uint64) (string, bool) {
	name := ""
	for i, f := range fields() {
		if row[i] < f.least || row[i] > f.most {
			return "", false
		}
		n := strconv.FormatUint(row[i], 10)
		name += f.ahead + strings.Repeat("0", f.digits-len(n)) + n
	}
	return name, true
}

// cut takes the row of numbers out of a name, and tells whether it is one.
func cut(name string, row ...*uint64) bool {
	for i, f := range fields() {
		rest, is := strings.CutPrefix(name, f.ahead)
		if !is || len(rest) < f.digits {
			return false
		}
		n, e := strconv.ParseUint(rest[:f.digits], 10, 64)
		if e != nil || n < f.least || n > f.most {
			return false
		}
		*row[i], name = n, rest[f.digits:]
	}
	return name == ""
}
