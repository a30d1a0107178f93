package json

import (
	"strconv"

	"escritoire/api"
)

// Text is the plain text of v.
func Text(v Value) ([]byte, api.Errno) {
	if !May(v) {
		return nil, api.ErrArg
	}
	out, is := put(nil, v)
	if !is {
		return nil, api.ErrLong
	}
	return out, api.OK
}

// put lays down b and v's text behind it: false as soon as these have too many bytes, since all of them may be far more than there is room for.
func put(b []byte, v Value) ([]byte, bool) {
	switch v.Kind {
	case Null, False, True:
		b = append(b, words()[v.Kind]...)
	case Number:
		b = strconv.AppendUint(b, v.Num, 10)
	case String:
		return putString(b, v.Str)
	case Array:
		return putOthers(b, v, '[')
	case Object:
		return putOthers(b, v, '{')
	}
	return b, len(b) <= Most
}

// putOthers lays down what v has in it, between that sign and the last one.
func putOthers(b []byte, v Value, first byte) ([]byte, bool) {
	is := true
	b = append(b, first)
	for i, x := range v.List {
		if i > 0 {
			b = append(b, ',')
		}
		if v.Kind == Object {
			if b, is = putString(b, v.Keys[i]); !is {
				return nil, false
			}
			b = append(b, ':')
		}
		if b, is = put(b, x); !is {
			return nil, false
		}
	}
	b = append(b, lastSign(v.Kind))
	return b, len(b) <= Most
}

// putString lays down a string that has s's signs.
func putString(b []byte, s string) ([]byte, bool) {
	const digits = "0123456789abcdef"
	if len(s) > Most {
		return nil, false
	}
	b = append(b, '"')
	for i := range len(s) {
		switch c := s[i]; {
		case c == '"' || c == '\\':
			b = append(b, '\\', c)
		case c < ' ':
			b = append(b, '\\', 'u', '0', '0', digits[c>>4], digits[c&15])
		default:
			b = append(b, c)
		}
	}
	b = append(b, '"')
	return b, len(b) <= Most
}

// words are the texts of the kinds of which each has one value alone.
func words() [3]string {
	return [3]string{Null: "null", False: "false", True: "true"}
}
