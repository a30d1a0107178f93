package json_test

import (
	"bytes"
	"fmt"
	"math"
	"strings"
	"testing"

	"escritoire/api"
	"escritoire/json"
)

// P4.2: Text

func TestTextOfDocumentsExample(t *testing.T) {
	wantText(t, object(keys("a", "b"), num(1), list(json.Value{}, str("x"))), `{"a":1,"b":[null,"x"]}`)
}

func TestText(t *testing.T) {
	for _, x := range []struct {
		v    json.Value
		want string
	}{
		{json.Value{}, "null"},
		{json.Value{Kind: json.False}, "false"},
		{json.Value{Kind: json.True}, "true"},
		{num(0), "0"},
		{num(7), "7"},
		{num(10), "10"},
		{num(math.MaxInt64 + 1), "9223372036854775808"},
		{num(math.MaxUint64), "18446744073709551615"},
		{str(""), `""`},
		{str("a b"), `"a b"`},
		{str("null"), `"null"`},
		{list(), "[]"},
		{json.Value{Kind: json.Array, List: []json.Value{}}, "[]"},
		{list(num(1)), "[1]"},
		{list(num(2), num(1), list(), str(""), object(nil)), `[2,1,[],"",{}]`},
		{object(nil), "{}"},
		{object([]string{}), "{}"},
		{object(keys(""), num(1)), `{"":1}`},
		{object(keys("b", "a"), num(1), num(2)), `{"b":1,"a":2}`},
		{object(keys("a\"\n", "é"), object(keys("x"), list()), json.Value{}), "{\"a\\\"\\u000a\":{\"x\":[]},\"é\":null}"},
		{nested(8, num(1), json.Array), "[[[[[[[[1]]]]]]]]"},
		{nested(8, list(), json.Object, json.Array).List[0], `[{"a":[{"a":[{"a":[[]]}]}]}]`},
		{nested(8, num(1), json.Array, json.Object), `[{"a":[{"a":[{"a":[{"a":1}]}]}]}]`},
	} {
		wantText(t, x.v, x.want)
	}
}

func TestTextOfEachSign(t *testing.T) {
	for c := range rune(0x3000) {
		want := string(c)
		switch {
		case c == '"' || c == '\\':
			want = `\` + want
		case c < 0x20:
			want = fmt.Sprintf(`\u%04x`, c)
		}
		wantText(t, str(string(c)), `"`+want+`"`)
		wantText(t, str("a"+string(c)+"b"), `"a`+want+`b"`)
		wantText(t, object(keys(string(c)), num(1)), `{"`+want+`":1}`)
	}
	for _, s := range []string{"/", "\x7f", "\u0080", "\u2028", "\u2029", "\ud7ff", "\ue000", "\ufeff", "\ufffd", "\uffff", "\U00010000", "😀", "\U0010ffff", "<>&'"} {
		wantText(t, str(s), `"`+s+`"`)
	}
	wantText(t, str("\\\\\"\"\x00\x00\x1f\r\n\t\b\f"), `"\\\\\"\"\u0000\u0000\u001f\u000d\u000a\u0009\u0008\u000c"`)
}

func TestTextOfWhatMayNotBe(t *testing.T) {
	for what, v := range mayNotBe() {
		wantNoText(t, what, v, api.ErrArg)
		wantNoText(t, what+", in a list", list(num(1), v), api.ErrArg)
		wantNoText(t, what+", in an object", object(keys("a"), v), api.ErrArg)
	}
}

// many is that many of a value.
func many(v json.Value, count int) []json.Value {
	out := make([]json.Value, count)
	for i := range out {
		out[i] = v
	}
	return out
}

// longest are values whose texts have as many bytes as may be, and ones with a byte more.
func longest() (most, more map[string]json.Value) {
	a := strings.Repeat("a", json.Most)
	nulls := many(json.Value{}, (json.Most-1)/5)
	quotes := strings.Repeat("\"", json.Most/2-1)
	steers := strings.Repeat("\x1f", (json.Most-2)/6)
	zeros := many(num(0), (json.Most-2)/2)
	most = map[string]json.Value{
		"a string":                  str(a[2:]),
		"a string of two bytes":     str(strings.Repeat("é", json.Most/2-1)),
		"a string of '\"'":          str(quotes),
		"a string of bytes below":   str(steers + a[len(steers)*6+2:]),
		"a list of nulls":           list(nulls...),
		"a list of numbers":         list(append(zeros[1:], num(10))...),
		"a string in a list":        list(str(a[4:])),
		"a string in lists":         nested(8, str(a[18:]), json.Array),
		"strings in a list":         list(str(a[:1000]), str(a[1007:])),
		"a name":                    object(keys(a[6:]), num(1)),
		"a string with a name":      object(keys("b"), str(a[8:])),
		"an empty list with a name": object(keys(a[7:]), list()),
	}
	more = map[string]json.Value{
		"a string":                  str(a[1:]),
		"a string of two bytes":     str(strings.Repeat("é", json.Most/2-1) + "a"),
		"a string of '\"'":          str(quotes + "a"),
		"a string of bytes below":   str(steers + a[len(steers)*6+1:]),
		"a list of nulls":           list(append(nulls[1:], json.Value{Kind: json.False})...),
		"a list of numbers":         list(append(zeros[1:], num(100))...),
		"a string in a list":        list(str(a[3:])),
		"a string in lists":         nested(8, str(a[17:]), json.Array),
		"strings in a list":         list(str(a[:1000]), str(a[1006:])),
		"a name":                    object(keys(a[5:]), num(1)),
		"a string with a name":      object(keys("b"), str(a[7:])),
		"an empty list with a name": object(keys(a[6:]), list()),
		"a greater number":          object(keys(a[6:]), num(10)),
	}
	return most, more
}

func TestTextOfTheLongest(t *testing.T) {
	most, more := longest()
	for what, v := range most {
		got, e := json.Text(v)
		if e != api.OK || len(got) != json.Most {
			t.Errorf("Text of %s: %d bytes, error %d, want %d bytes", what, len(got), e, json.Most)
		}
		if back, e := json.Parse(got); e != api.OK || !equal(back, v) {
			t.Errorf("Parse of the text of %s: error %d, or another value", what, e)
		}
	}
	for what, v := range more {
		wantNoText(t, what+", a byte too long", v, api.ErrLong)
	}
}

func TestTextOfFarTooLong(t *testing.T) {
	long := strings.Repeat("\x01", 1<<24)
	for what, v := range map[string]json.Value{
		"a long string":         str(long),
		"a long name":           object(keys(long), num(1)),
		"a long string, behind": list(num(1), list(str(long), num(1))),
		"many long strings":     list(many(str(long[:1<<19]), 1<<12)...),
		"many long names":       list(many(object(keys(long[:1<<19]), num(1)), 1<<12)...),
		"many values":           list(many(json.Value{}, 1<<20)...),
		"many empty lists":      list(many(list(), 1<<20)...),
		"many shared lists":     shared(8, num(1)),
		"many shared objects":   nested(1, shared(6, object(nil)), json.Object),
	} {
		wantNoText(t, what, v, api.ErrLong)
	}
}

// R5: what may not be is told ahead of what is too long.
func TestTextOfTooLongThatMayNotBe(t *testing.T) {
	_, more := longest()
	for what, v := range more {
		wantNoText(t, what+", with what may not be", list(v, str("\xff")), api.ErrArg)
		v.Num++
		if v.Kind != json.Number {
			wantNoText(t, what+", with a Num", v, api.ErrArg)
		}
	}
	wantNoText(t, "a long string that is no UTF-8", str(strings.Repeat("a", 2*json.Most)+"\xff"), api.ErrArg)
	wantNoText(t, "many shared lists, with a fault", list(shared(7, num(1)), json.Value{Kind: 7}), api.ErrArg)
}

func TestTextIsNewMemory(t *testing.T) {
	for _, v := range mayBe() {
		one, _ := json.Text(v)
		two, _ := json.Text(v)
		want := bytes.Clone(two)
		for i := range one[:cap(one)] {
			one[:cap(one)][i] ^= 0xff
		}
		if three, _ := json.Text(v); !bytes.Equal(two, want) || !bytes.Equal(three, want) {
			t.Errorf("Text(%s), behind a change of the same again: got %q and %q", shown(v), two, three)
		}
	}
}

// P4.3

func TestParseOfText(t *testing.T) {
	for _, v := range mayBe() {
		b, e := json.Text(v)
		if e != api.OK {
			t.Fatalf("Text(%s): error %d", shown(v), e)
		}
		wantParse(t, string(b), v)
	}
	seed := uint64(1)
	for range 20000 {
		v := random(&seed, 0)
		if !json.May(v) {
			t.Fatalf("May(%s): false", shown(v))
		}
		b, e := json.Text(v)
		if e != api.OK {
			t.Fatalf("Text(%s): error %d", shown(v), e)
		}
		wantParse(t, string(b), v)
		wantAsTold(t, b)
	}
}

func TestTextOfAllTextsOfOneValue(t *testing.T) {
	for plain, texts := range map[string][]string{
		`{"a":1,"b":[null,"x"]}`: {` { "a" : 1 , "b" : [ null , "x" ] } `, "\n{\t\"\\u0061\"\r:1,\"b\":[null,\"\\u0078\"]}", `{"a":1,"b":[null,"\u0078"]}`},
		`"\u000aé/\"\\"`:         {`"\n\u00e9\/\u0022\u005c"`, `"\u000A\u00E9/\"\\"`, ` "\u000aé\u002f\"\\"`},
		`"😀"`:                    {`"\ud83d\ude00"`, `"\uD83D\uDE00"`, `"\uD83d\udE00"`},
		`0`:                      {" 0", "0 ", "\t\n\r 0\t\n\r "},
		`[]`:                     {"[ ]", " [\n] "},
		`{}`:                     {"{ }", " {\t} "},
	} {
		for _, s := range append(texts, plain) {
			v, e := json.Parse([]byte(s))
			if e != api.OK {
				t.Errorf("Parse(%q): error %d", s, e)
			}
			wantText(t, v, plain)
		}
	}
	// A text may be short enough where the plain one is not.
	v, e := json.Parse([]byte(`"` + strings.Repeat(`\n`, json.Most/2-1) + `"`))
	if e != api.OK || v.Str != strings.Repeat("\n", json.Most/2-1) {
		t.Errorf("Parse of a long text: error %d", e)
	}
	wantNoText(t, "its value", v, api.ErrLong)
}
