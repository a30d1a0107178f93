package json

import (
	"bytes"
	"strconv"
	"unicode/utf8"

	"escritoire/api"
)

// reader is what of a text was not read yet.
type reader struct {
	rest []byte
}

// Parse is the value of which b is a text.
func Parse(b []byte) (Value, api.Errno) {
	if len(b) > Most {
		return Value{}, api.ErrLong
	}
	r := reader{rest: b}
	v, is := r.whole()
	if !is || !May(v) {
		return Value{}, api.ErrForm
	}
	return v, api.OK
}

// whole reads a value and the blanks around it, from one state to the other, till nothing is left.
func (r *reader) whole() (Value, bool) {
	var (
		open []Value // the lists and objects that have not ended, each of them in the one ahead of it
		top  *Value  // the innermost one of them
		v    Value   // the value that began or ended last
		is   bool
	)

value:
	if v, is = r.opening(); is {
		goto opened
	}
	if v, is = r.single(); is {
		goto ended
	}
	goto wrong

opened:
	// What is deeper may not be, whatever comes: so much need not be kept till its end.
	if len(open) == Depth {
		goto wrong
	}
	open = append(open, v)
	if r.take(lastSign(v.Kind)) {
		goto closed
	}
	if v.Kind == Array {
		goto value
	}

member:
	top = &open[len(open)-1]
	if r.name(top) {
		goto value
	}
	goto wrong

closed:
	v, open = open[len(open)-1], open[:len(open)-1]

ended:
	if len(open) == 0 {
		r.blanks()
		return v, len(r.rest) == 0
	}
	top = &open[len(open)-1]
	top.List = append(top.List, v)
	if r.take(lastSign(top.Kind)) {
		goto closed
	}
	if !r.take(',') {
		goto wrong
	}
	if top.Kind == Object {
		goto member
	}
	goto value

wrong:
	return Value{}, false
}

// opening reads the first sign of a list or of an object: it is one without anything in it, for now.
func (r *reader) opening() (Value, bool) {
	switch {
	case r.take('['):
		return Value{Kind: Array}, true
	case r.take('{'):
		return Value{Kind: Object}, true
	}
	return Value{}, false
}

// name reads a member's string and the ':' behind it, and puts it to the object's names.
func (r *reader) name(object *Value) bool {
	if !r.take('"') {
		return false
	}
	s, is := r.text()
	object.Keys = append(object.Keys, s)
	return is && r.take(':')
}

// single reads a value that has no others in it.
func (r *reader) single() (Value, bool) {
	if r.take('"') {
		s, is := r.text()
		return Value{Kind: String, Str: s}, is
	}
	for kind, word := range words() {
		if rest, is := bytes.CutPrefix(r.rest, []byte(word)); is {
			r.rest = rest
			return Value{Kind: kind}, true
		}
	}
	return r.number()
}

// text reads a string behind its first '"'. Whether it is UTF-8 is not looked at here.
func (r *reader) text() (string, bool) {
	var (
		out       []byte
		c         byte
		code, low rune
		is        bool
	)

sign:
	switch c = r.next(); {
	case c == '"':
		return string(out), true
	case c == '\\':
		goto escape
	case c < ' ':
		goto wrong
	}
	out = append(out, c)
	goto sign

escape:
	c = r.next()
	if c == 'u' {
		goto digits
	}
	if c, is = meant(c); !is {
		goto wrong
	}
	out = append(out, c)
	goto sign

digits:
	code, is = r.code()
	if is && isHigh(code) {
		goto pair
	}
	if !is || isLow(code) {
		goto wrong
	}
	out = utf8.AppendRune(out, code)
	goto sign

pair:
	if r.next() != '\\' || r.next() != 'u' {
		goto wrong
	}
	if low, is = r.code(); !is || !isLow(low) {
		goto wrong
	}
	out = utf8.AppendRune(out, together(code, low))
	goto sign

wrong:
	return "", false
}

// number reads a number.
func (r *reader) number() (Value, bool) {
	count := 0
	for count < len(r.rest) && r.rest[count] >= '0' && r.rest[count] <= '9' {
		count++
	}
	if count > 1 && r.rest[0] == '0' {
		return Value{}, false
	}
	n, err := strconv.ParseUint(string(r.rest[:count]), 10, 64)
	if err != nil {
		return Value{}, false
	}
	r.rest = r.rest[count:]
	return Value{Kind: Number, Num: n}, true
}

// code reads what four digits to the base 16 count.
func (r *reader) code() (rune, bool) {
	var n rune
	for range 4 {
		d, is := digit(r.next())
		if !is {
			return 0, false
		}
		n = n<<4 | d
	}
	return n, true
}

// take reads blanks and that sign, if it is the next one behind them.
func (r *reader) take(sign byte) bool {
	r.blanks()
	if len(r.rest) == 0 || r.rest[0] != sign {
		return false
	}
	r.rest = r.rest[1:]
	return true
}

// blanks reads blanks, as many as there are.
func (r *reader) blanks() {
	r.rest = bytes.TrimLeft(r.rest, " \t\n\r")
}

// next reads one byte; where nothing is left it tells 0, which may stand nowhere in a string.
func (r *reader) next() byte {
	if len(r.rest) == 0 {
		return 0
	}
	c := r.rest[0]
	r.rest = r.rest[1:]
	return c
}

// lastSign is the sign at which values of that kind end.
func lastSign(kind int) byte {
	if kind == Object {
		return '}'
	}
	return ']'
}

// meant is the byte for which a sign behind '\' stands, and whether there is one.
func meant(c byte) (byte, bool) {
	switch c {
	case '"', '\\', '/':
		return c, true
	case 'b':
		return '\b', true
	case 'f':
		return '\f', true
	case 'n':
		return '\n', true
	case 'r':
		return '\r', true
	case 't':
		return '\t', true
	}
	return 0, false
}

// digit is what a digit to the base 16 counts, and whether it is one.
func digit(c byte) (rune, bool) {
	switch {
	case c >= '0' && c <= '9':
		return rune(c - '0'), true
	case c >= 'a' && c <= 'f':
		return rune(c - 'a' + 10), true
	case c >= 'A' && c <= 'F':
		return rune(c - 'A' + 10), true
	}
	return 0, false
}

// isHigh tells whether a code is the first half of a rune above ffff.
func isHigh(code rune) bool {
	return code >= 0xd800 && code <= 0xdbff
}

// isLow tells whether a code is the second half of a rune above ffff.
func isLow(code rune) bool {
	return code >= 0xdc00 && code <= 0xdfff
}

// together is the rune that two halves are.
func together(high, low rune) rune {
	return 0x10000 + (high-0xd800)<<10 + (low - 0xdc00)
}
