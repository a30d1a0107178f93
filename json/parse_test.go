package json_test

import (
	"bytes"
	"fmt"
	"math"
	"strings"
	"testing"

	"escritoire/api"
	"escritoire/json"
)

// known are texts of which each sign matters.
var known = []string{
	`{"a":1,"b":[null,"x"]}`,
	` [ 1 , "\u00e9" ] `,
	`[true,false,null,0,10]`,
	`"\"\\\/\b\f\n\r\t"`,
	`"\ud83d\ude00"`,
	`"\uD7ff\uE000"`,
	"\"\u00e9\u20ac\U0001f600\"",
	`18446744073709551615`,
	`{"":{"a":{}},"\u0062":[],"c":[[]]}`,
	`[[[[[[[[]]]]]]]]`,
	"\t\n\r { \"a\"\t:\n1\r, \"b\" : [ ] } ",
}

// P4.2: Parse

func TestParseOfDocumentsExamples(t *testing.T) {
	wantParse(t, ` [ 1 , "\u00e9" ] `, list(num(1), str("é")))
	for _, s := range []string{"01", "-1", "1.5", `"\ud800"`, `{"a":1,"a":2}`, "[1,]", "[[[[[[[[[]]]]]]]]]"} {
		wantError(t, s, api.ErrForm)
	}
	wantParse(t, "18446744073709551615", num(math.MaxUint64))
	wantError(t, "18446744073709551616", api.ErrForm)
}

func TestParseOfWords(t *testing.T) {
	for kind, word := range []string{"null", "false", "true"} {
		v := json.Value{Kind: kind}
		wantParse(t, word, v)
		wantParse(t, " "+word+"\n", v)
		wantParse(t, "["+word+","+word+"]", list(v, v))
		wantParse(t, `{"`+word+`":`+word+`}`, object(keys(word), v))
		for _, s := range []string{word + word, word + "0", word + "s", "n" + word, strings.ToUpper(word), strings.ToTitle(word[:1]) + word[1:], word + " " + word, word + ",", word + "\x00", "'" + word + "'", "{" + word + ":1}"} {
			wantError(t, s, api.ErrForm)
		}
		for n := 1; n < len(word); n++ {
			wantError(t, word[:n], api.ErrForm)
			wantError(t, "["+word[:n]+"]", api.ErrForm)
			wantError(t, word[:n]+" "+word[n:]+"x", api.ErrForm)
		}
	}
	for _, s := range []string{"nil", "undefined", "NaN", "Infinity", "none", "yes", "a"} {
		wantError(t, s, api.ErrForm)
	}
}

func TestParseOfNumbers(t *testing.T) {
	for _, n := range []uint64{0, 1, 9, 10, 99, 100, 1<<32 - 1, 1 << 32, 1 << 53, 1<<53 + 1, math.MaxInt64, math.MaxInt64 + 1, math.MaxUint64 - 1, math.MaxUint64} {
		s := fmt.Sprint(n)
		wantParse(t, s, num(n))
		wantParse(t, " "+s+" ", num(n))
		wantParse(t, "["+s+","+s+"]", list(num(n), num(n)))
		wantParse(t, `{"a":`+s+`}`, object(keys("a"), num(n)))
		for _, wrong := range []string{"0" + s, "00" + s, "-" + s, "+" + s, s + ".", s + ".0", s + "e0", s + "e1", s + "E1", "." + s, "0x" + s, s + "_0", s + "a", s + " 0", "0 " + s, s + "\x00", "'" + s, "{" + s + ":1}"} {
			wantError(t, wrong, api.ErrForm)
			wantError(t, "["+wrong+"]", api.ErrForm)
		}
	}
	for _, s := range []string{
		"18446744073709551616", "18446744073709551620", "18446744073709551700", "20000000000000000000", "99999999999999999999", "100000000000000000000", "184467440737095516150", "36893488147419103232",
		"-0", "00", "000", "0.0", "1e0", "-", "+", ".", "0-", "1-1", "0b1", "0o7", "0x1", "1_000", "1,000", "１", "٣", "½", "1 1", "1\x001",
		strings.Repeat("0", json.Most), strings.Repeat("1", json.Most), "1" + strings.Repeat("0", 1000),
	} {
		wantError(t, s, api.ErrForm)
	}
}

func TestParseOfListsAndObjects(t *testing.T) {
	one := num(1)
	for s, want := range map[string]json.Value{
		"[]":                        list(),
		"[[]]":                      list(list()),
		"[[],[]]":                   list(list(), list()),
		"[{}]":                      list(object(nil)),
		"[1,[1,[1],1],1]":           list(one, list(one, list(one), one), one),
		`[null,"a",[],{},true]`:     list(json.Value{}, str("a"), list(), object(nil), json.Value{Kind: json.True}),
		"{}":                        object(nil),
		`{"":1}`:                    object(keys(""), one),
		`{"b":1,"a":{"b":1}}`:       object(keys("b", "a"), one, object(keys("b"), one)),
		`{"a":[],"b":{},"c":1}`:     object(keys("a", "b", "c"), list(), object(nil), one),
		`{"a":{"a":{"a":1}}}`:       object(keys("a"), object(keys("a"), object(keys("a"), one))),
		`{"a":1,"A":1,"a ":1}`:      object(keys("a", "A", "a "), one, one, one),
		`[{"a":1},{"a":1}]`:         list(object(keys("a"), one), object(keys("a"), one)),
		`{"é":1,"e\u0301":1}`:       object(keys("é", "e\u0301"), one, one),
		`{"\n\"\\":1,"n":"\u0000"}`: object(keys("\n\"\\", "n"), one, str("\x00")),
	} {
		wantParse(t, s, want)
	}
	for _, s := range []string{
		"", " ", "\n", "[", "]", "{", "}", ",", ":", "[1", "1]", "[1,", "[,", "[,]", "[,1]", "[1,]", "[1,,1]", "[1 1]", "[1:1]", "[:]", "[}", "[1}", "[]]", "[[]", "[][]", "[],", ",[]", "[]1", "1[]", "[]{}", "[1;1]", "(1)", "[\"a\":1]", "[\"a\" 1]",
		`{`, `{"`, `{"a`, `{"a"`, `{"a"}`, `{"a":`, `{"a":}`, `{"a":1`, `{"a":1,`, `{"a":1,}`, `{,}`, `{,"a":1}`, `{:1}`, `{"a",1}`, `{"a" 1}`, `{"a"::1}`, `{"a":1:1}`, `{"a":1 "b":1}`, `{"a":1,,"b":1}`, `{"a":1;"b":1}`, `{"a":1]`, `{"a":1}}`, `{{}}`, `{[]}`, `{1}`, `{1:1}`, `{a:1}`, `{'a':1}`, `{null:1}`, `{"a"=1}`, `{"a":1,"b"}`, `{"a":1,1}`, `{"a":1,{}}`, `{"a":1}{"a":1}`, `{"a":1},`, `{"a":"b":1}`, `{[]:1}`,
		"//\n1", "/**/1", "1#", "<1>", "\ufeff1", "\x001", "1\x00", "[1]\x00", "'a'", "`a`", "1;", "\"a\",", "\"a\"\"b\"", "\"a\" \"b\"",
	} {
		wantError(t, s, api.ErrForm)
	}
}

// Names are the same by what they stand for.
func TestParseOfANameTwice(t *testing.T) {
	for _, s := range []string{
		`{"a":1,"a":1}`, `{"a":1,"b":2,"a":3}`, `{"a":1,"\u0061":1}`, `{"\n":1,"\u000A":1}`, `{"":1,"":1}`, `{"/":1,"\/":1}`, `{"é":1,"\u00e9":1}`, `{"😀":1,"\ud83d\ude00":1}`,
		`[1,{"a":1,"a":1}]`, `{"x":{"a":1,"a":1}}`, `{"x":{"a":1},"y":[],"x":2}`,
	} {
		wantError(t, s, api.ErrForm)
	}
	text := []byte("{")
	for i := range 1 << 16 {
		text = fmt.Appendf(text, `"%x":1,`, i)
	}
	v, e := json.Parse(append(bytes.Clone(text), `"0x":1}`...))
	if e != api.OK || len(v.Keys) != 1<<16+1 {
		t.Errorf("Parse of an object of many names: %d of them, error %d", len(v.Keys), e)
	}
	wantError(t, string(text)+`"0":1}`, api.ErrForm)
	wantError(t, string(text)+`"ffff":1}`, api.ErrForm)
}

func TestParseOfDepths(t *testing.T) {
	for n := 1; n <= 20; n++ {
		for s, v := range map[string]json.Value{
			strings.Repeat("[", n) + "1" + strings.Repeat("]", n):                      nested(n, num(1), json.Array),
			strings.Repeat("[", n) + strings.Repeat("]", n):                            nested(n-1, list(), json.Array),
			strings.Repeat(" [ ", n) + strings.Repeat(" ] ", n):                        nested(n-1, list(), json.Array),
			strings.Repeat(`{"a":`, n) + "1" + strings.Repeat("}", n):                  nested(n, num(1), json.Object),
			strings.Repeat(`{"a":`, n-1) + "{}" + strings.Repeat("}", n-1):             nested(n-1, object(nil), json.Object),
			strings.Repeat(`[{"a":`, n/2) + "1" + strings.Repeat("}]", n/2):            nested(n/2*2, num(1), json.Array, json.Object),
			"[[]," + strings.Repeat("[", n-1) + "1" + strings.Repeat("]", n-1) + ",1]": list(list(), nested(n-1, num(1), json.Array), num(1)),
		} {
			switch {
			case json.May(v) != (n <= 8 || n == 9 && strings.HasPrefix(s, `[{"a":`)):
				t.Errorf("May(%s): %v", shown(v), json.May(v))
			case json.May(v):
				wantParse(t, s, v)
			default:
				wantError(t, s, api.ErrForm)
			}
		}
	}
	for _, open := range []string{"[", `{"a":`, "[[],", `[{"a":`, " ["} {
		wantError(t, strings.Repeat(open, json.Most/len(open)), api.ErrForm)
	}
	wantError(t, strings.Repeat("[", json.Most/2)+strings.Repeat("]", json.Most/2), api.ErrForm)
	wide := strings.Repeat("[[[[[[[]]]]]]],", 1000)
	if v, e := json.Parse([]byte("[" + wide + "1]")); e != api.OK || len(v.List) != 1001 {
		t.Errorf("Parse of many lists beside one another: %d, error %d", len(v.List), e)
	}
}

func TestParseOfBlanks(t *testing.T) {
	parts := []string{"", "{", `"a"`, ":", "1", ",", `"b"`, ":", "[", "null", ",", `"x y"`, ",", "[", "]", ",", "{", "}", "]", "}", ""}
	want := object(keys("a", "b"), num(1), list(json.Value{}, str("x y"), list(), object(nil)))
	for _, blanks := range []string{"", " ", "\t", "\n", "\r", "\r\n", " \t\n\r \t\n\r", strings.Repeat(" ", 1000)} {
		wantParse(t, strings.Join(parts, blanks), want)
		for i := range parts {
			wantParse(t, strings.Join(parts[:i], "")+blanks+strings.Join(parts[i:], ""), want)
		}
	}
	for c := range 256 {
		sign := string([]byte{byte(c)})
		if strings.Contains(" \t\n\r", sign) {
			continue
		}
		for _, s := range []string{sign + "1", "1" + sign + " ", " " + sign + " 1", "[" + sign + "]", "[1" + sign + " ]", "{" + sign + "}"} {
			wantAsTold(t, []byte(s))
		}
	}
	for _, sign := range []string{"\v", "\f", "\x00", "\u00a0", "\u0085", "\u2028", "\u3000", "\ufeff", "\u200b"} {
		for i := range parts {
			wantError(t, strings.Join(parts[:i], "")+sign+strings.Join(parts[i:], ""), api.ErrForm)
		}
	}
	for _, s := range []string{"n ull", "1 0", "t\nrue", `"\ n"`, `"\u 0041"`, `"\u00 41"`} {
		wantError(t, s, api.ErrForm)
	}
	wantParse(t, `" a "`, str(" a "))
}

func TestParseOfEachByteInAString(t *testing.T) {
	for c := range 256 {
		s := []byte{'"', byte(c), '"'}
		switch {
		case c >= 0x20 && c < 0x80 && c != '"' && c != '\\':
			wantParse(t, string(s), str(string(s[1:2])))
		default:
			wantError(t, string(s), api.ErrForm)
		}
		escaped := []byte{'"', '\\', byte(c), '"'}
		if i := strings.IndexByte(`"\/bfnrt`, byte(c)); i >= 0 {
			wantParse(t, string(escaped), str("\"\\/\b\f\n\r\t"[i:i+1]))
		} else {
			wantError(t, string(escaped), api.ErrForm)
		}
	}
}

func TestParseOfEachCode(t *testing.T) {
	for n := range 1 << 16 {
		for _, form := range []string{`"\u%04x"`, `"\u%04X"`} {
			s := fmt.Sprintf(form, n)
			if n>>11 == 0xd800>>11 {
				wantError(t, s, api.ErrForm)
			} else {
				wantParse(t, s, str(string(rune(n))))
			}
		}
	}
}

func TestParseOfEachPair(t *testing.T) {
	for n := 0x10000; n <= 0x10ffff; n += 13 {
		high, low := 0xd800+(n-0x10000)>>10, 0xdc00+n&0x3ff
		wantParse(t, fmt.Sprintf(`"\u%x\u%X"`, high, low), str(string(rune(n))))
	}
	wantParse(t, `"\ud800\udc00"`, str("\U00010000"))
	wantParse(t, `"\uDBFF\uDFFF"`, str("\U0010ffff"))
	wantParse(t, `"a\ud83d\ude00b\ud83d\ude00"`, str("a😀b😀"))
	for _, s := range []string{
		`\ud800`, `\udbff`, `\udc00`, `\udfff`, `\ud800a`, `\ud800\n`, `\ud800\u0041`, `\ud800\ud800`, `\udbff\udbff`, `\udc00\ud800`, `\udc00\udc00`, `\ud800\ue000`, `\ud800\udbff`, `\ud83d\\ude00`, `\ud83dude00`, `\ud83d \ude00`, `\ud83d\Ude00`, `\ud83d\ude0`, `\ud83d\ud`, `\ud83d\u`, `\ud83d\`,
		`\ud83d\ude00\ude00`, `\ud83d\ud83d\ude00`, "\\ud83d\xed\xb8\x80", "\xed\xa0\xbd\\ude00", "\xed\xa0\xbd\xed\xb8\x80", `\ud83d` + "😀",
	} {
		wantError(t, `"`+s+`"`, api.ErrForm)
		wantError(t, `["x`+s+`x"]`, api.ErrForm)
		wantError(t, `{"`+s+`":1}`, api.ErrForm)
		wantError(t, `"`+s, api.ErrForm)
	}
}

func TestParseOfOtherCodes(t *testing.T) {
	for _, s := range []string{`\u`, `\u0`, `\u00`, `\u004`, `\u004g`, `\ug041`, `\u00-1`, `\u+041`, `\u 041`, `\U0041`, `\u{41}`, `\u0x41`, `\x41`, `\101`, `\0`, `\a`, `\v`, `\'`, `\ `, `\` + "\n", `\` + "é", `\B`, `\N`, `\u004` + "é", `\u00４1`} {
		wantError(t, `"`+s+`"`, api.ErrForm)
		wantError(t, `"`+s, api.ErrForm)
	}
	wantParse(t, `"\u00411"`, str("A1"))
	wantParse(t, `"\\u0041"`, str(`\u0041`))
	wantParse(t, `"\u005cn"`, str(`\n`))
	wantParse(t, `"\u0022"`, str(`"`))
	wantParse(t, `"\uabCD\uEf01"`, str("\uabcd\uef01"))
}

// The bytes of a string are UTF-8 all together; and so must be what its signs stand for.
func TestParseOfOtherThanUTF8(t *testing.T) {
	for what, v := range mayNotBe() {
		if v.Kind == json.String && v.Num == 0 && len(v.List) == 0 && len(v.Keys) == 0 {
			for _, s := range []string{`"` + v.Str + `"`, `["a","` + v.Str + `"]`, `{"` + v.Str + `":1}`, `{"a":1,"b` + v.Str + `":1}`, v.Str} {
				if e := errorOf(s); e != api.ErrForm {
					t.Errorf("Parse(%q), with %s: error %d", s, what, e)
				}
			}
		}
	}
	for _, s := range []string{"\"\xc3\\n\xa9\"", "\"\xc3\\u0041\xa9\"", "\"\xe2\\u0082\xac\"", "\"\\u00c3\xa9\"", "\"\xf0\x9f\\\"\x98\x80\""} {
		wantError(t, s, api.ErrForm)
	}
	wantParse(t, `"\u00c3\u00a9"`, str("Ã©"))
	wantParse(t, "\"\u0080\u07ff\u0800\ud7ff\ue000\uffff\U00010000\U0010ffff\ufeff\"", str("\u0080\u07ff\u0800\ud7ff\ue000\uffff\U00010000\U0010ffff\ufeff"))
}

// errorOf is the error of Parse.
func errorOf(s string) api.Errno {
	_, e := json.Parse([]byte(s))
	return e
}

func TestParseOfTheLongest(t *testing.T) {
	a := strings.Repeat("a", json.Most)
	blanks := strings.Repeat(" ", json.Most)
	for s, want := range map[string]json.Value{
		`"` + a[2:] + `"`: str(a[2:]), blanks[1:] + "1": num(1), "1" + blanks[1:]: num(1), "[" + blanks[2:] + "]": list(), `{"` + a[6:] + `":1}`: object(keys(a[6:]), num(1)),
	} {
		for len(s) < json.Most {
			s += " "
		}
		wantParse(t, s, want)
		for _, longer := range []string{s + " ", " " + s, s + s, "x" + s, s + "x"} {
			wantError(t, longer, api.ErrLong)
		}
	}
	for _, s := range []string{blanks, a, "\x00" + a[1:], strings.Repeat("[", json.Most), strings.Repeat("9", json.Most)} {
		wantError(t, s, api.ErrForm)
		wantError(t, s+"a", api.ErrLong)
	}
	v, e := json.Parse([]byte("[" + strings.Repeat("1,", json.Most/2-1) + "1]")[1:])
	if e != api.ErrForm || !isNull(v) {
		t.Errorf("Parse of a long list without a beginning: error %d", e)
	}
	v, e = json.Parse([]byte("[" + strings.Repeat("1,", json.Most/2-2) + "10]"))
	if e != api.OK || len(v.List) != json.Most/2-1 {
		t.Errorf("Parse of the longest list: %d, error %d", len(v.List), e)
	}
}

func TestParseOfNone(t *testing.T) {
	for _, b := range [][]byte{nil, {}} {
		if v, e := json.Parse(b); e != api.ErrForm || !isNull(v) {
			t.Errorf("Parse of none: got %s, error %d", shown(v), e)
		}
	}
}

// Parse beside the library's reader

func TestParseOfEachByteInEachPlace(t *testing.T) {
	for _, s := range known {
		wantAsTold(t, []byte(s))
		for place := range len(s) {
			wantAsTold(t, []byte(s[:place]))
			wantAsTold(t, []byte(s[place:]))
			wantAsTold(t, []byte(s[:place]+s[place+1:]))
			for c := range 256 {
				b := []byte(s)
				b[place] = byte(c)
				wantAsTold(t, b)
				wantAsTold(t, []byte(s[:place]+string([]byte{byte(c)})+s[place:]))
			}
		}
	}
}

// textsOf hands over all texts of so many of some parts at most.
func textsOf(parts []string, count int, hand func(string)) {
	texts := []string{""}
	for range count {
		var longer []string
		for _, s := range texts {
			for _, p := range parts {
				longer = append(longer, s+p)
				hand(s + p)
			}
		}
		texts = longer
	}
}

func TestParseOfAllTextsOfSomeParts(t *testing.T) {
	textsOf([]string{"[", "]", "{", "}", ",", ":", `"a"`, `"b"`, "1", "0", " ", "null", "-"}, 5, func(s string) {
		wantAsTold(t, []byte(s))
	})
	textsOf([]string{"[", "]", "{", "}", ",", `"a":`, "1"}, 6, func(s string) {
		wantAsTold(t, []byte(s))
	})
	textsOf([]string{`\`, `"`, "u", "0041", "d83d", "de00", "n", "\n", "\xc3", "\xa9", " "}, 5, func(s string) {
		wantAsTold(t, []byte(`"`+s+`"`))
	})
}

// R3

func TestParsesBytesAreOnlyReadAndNotKept(t *testing.T) {
	for _, s := range known {
		room := []byte(s + "more")
		got, e := json.Parse(room[:len(s)])
		want, is := told([]byte(s))
		if !is || e != api.OK || string(room) != s+"more" {
			t.Fatalf("Parse(%q): error %d; the bytes are %q", s, e, room)
		}
		for i := range room {
			room[i] ^= 0xff
		}
		if !equal(got, want) {
			t.Errorf("Parse(%q), behind a change of the bytes: %s", s, shown(got))
		}
	}
}

func TestWhatIsParsedIsNewMemory(t *testing.T) {
	s := `[[1,[2]],[],[[3],{"a":[4],"b":{"c":5}}],{"a":[6],"b":7},[8,9]]`
	want, _ := told([]byte(s))
	for i := range want.List {
		got, _ := json.Parse([]byte(s))
		spoil(got.List[i])
		got.List[i] = json.Value{}
		for j := range want.List {
			if j != i && !equal(got.List[j], want.List[j]) {
				t.Errorf("list %d, behind a change of list %d: %s", j, i, shown(got.List[j]))
			}
		}
		wantParse(t, s, want)
	}
}

func FuzzParse(f *testing.F) {
	for _, s := range known {
		f.Add([]byte(s))
	}
	f.Fuzz(func(t *testing.T, b []byte) {
		wantAsTold(t, b)
		v, e := json.Parse(b)
		if e != api.OK {
			return
		}
		text, e := json.Text(v)
		if e != api.OK {
			t.Fatalf("Text of what Parse(%q) tells: error %d", b, e)
		}
		wantParse(t, string(text), v)
	})
}
