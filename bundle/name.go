package bundle

import (
	"strconv"
	"strings"

	"escritoire/api"
)

const (
	prefix   = "b-"
	greatest = 999999 // number of a bundle
)

// Name is the name of a bundle.
func Name(number uint64, width int) (string, api.Errno) {
	if number > greatest || width < 1 || width > api.Width {
		return "", api.ErrArg
	}
	first, last := digits(number), digits(uint64(width))
	return prefix + string(first[:]) + "-" + string(last[len(last)-2:]), api.OK
}

// Parse is the number and the width of the bundle that has that name.
func Parse(name string) (uint64, int, api.Errno) {
	first, last, _ := strings.Cut(strings.TrimPrefix(name, prefix), "-")
	// A bundle has one name: what is written in another way, or is no number, is found by that alone.
	number, _ := strconv.ParseUint(first, 10, 64)
	width, _ := strconv.Atoi(last)
	if again, e := Name(number, width); e != api.OK || again != name {
		return 0, 0, api.ErrForm
	}
	return number, width, api.OK
}

// digits are the decimal digits of a bundle's number, or of its width.
func digits(n uint64) [6]byte {
	var out [6]byte
	for i := range out {
		out[len(out)-1-i] = '0' + byte(n%10)
		n /= 10
	}
	return out
}
