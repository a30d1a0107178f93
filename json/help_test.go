package json_test

import (
	"bytes"
	std "encoding/json"
	"io"
	"slices"
	"strconv"
	"testing"
	"unicode/utf8"

	"escritoire/api"
	"escritoire/json"
)

func num(n uint64) json.Value         { return json.Value{Kind: json.Number, Num: n} }
func str(s string) json.Value         { return json.Value{Kind: json.String, Str: s} }
func list(l ...json.Value) json.Value { return json.Value{Kind: json.Array, List: l} }
func keys(names ...string) []string   { return names }

func object(names []string, l ...json.Value) json.Value {
	return json.Value{Kind: json.Object, Keys: names, List: l}
}

// nested are so many lists and objects in one another, by turns as the kinds say, and in the innermost one what is told.
func nested(n int, in json.Value, kinds ...int) json.Value {
	v := in
	for i := range n {
		x := json.Value{Kind: kinds[(n-1-i)%len(kinds)], List: []json.Value{v}}
		if x.Kind == json.Object {
			x.Keys = []string{"a"}
		}
		v = x
	}
	return v
}

// shared are so many lists in one another, each with its one list many times in it: far more values than anybody could go through one by one.
func shared(n int, in json.Value) json.Value {
	v := in
	for range n {
		l := make([]json.Value, 1000)
		for i := range l {
			l[i] = v
		}
		v = list(l...)
	}
	return v
}

// endless is a list that stands in itself, so many lists further in, behind what each of them has at first.
func endless(round int, at ...json.Value) json.Value {
	lists := make([][]json.Value, round)
	for i := range lists {
		lists[i] = append(slices.Clone(at), json.Value{})
	}
	for i, l := range lists {
		l[len(at)] = list(lists[(i+1)%round]...)
	}
	return list(lists[0]...)
}

// spoil writes to all that v has in lists, the room behind them included.
func spoil(v json.Value) {
	for i := range v.Keys[:cap(v.Keys)] {
		v.Keys[:cap(v.Keys)][i] = "spoilt"
	}
	l := v.List[:cap(v.List)]
	for i := range l {
		spoil(l[i])
		l[i] = str("spoilt")
	}
}

// copied is a value that has the same as v, whose lists are finite.
func copied(v json.Value) json.Value {
	v.Keys = slices.Clone(v.Keys)
	v.List = slices.Clone(v.List)
	for i, x := range v.List {
		v.List[i] = copied(x)
	}
	return v
}

// equal holds two values against each other, by a way of its own.
func equal(a, b json.Value) bool {
	return a.Kind == b.Kind && a.Num == b.Num && a.Str == b.Str && slices.Equal(a.Keys, b.Keys) && slices.EqualFunc(a.List, b.List, equal)
}

// isNull tells whether v has nothing.
func isNull(v json.Value) bool {
	return equal(v, json.Value{})
}

// random is a value of a seed that may be, by a rule of its own.
func random(seed *uint64, depth int) json.Value {
	next := func(below uint64) uint64 {
		*seed = *seed*6364136223846793005 + 1442695040888963407
		return (*seed >> 33) % below
	}
	text := func() string {
		signs := []string{"a", "\"", "\\", "/", "\x00", "\n", "\x1f", " ", "\x7f", "é", "\u2028", "\ufeff", "\uffff", "😀", "\U0010ffff", "u0041", "]", ","}
		out := ""
		for range next(5) {
			out += signs[next(uint64(len(signs)))]
		}
		return out
	}
	switch kind := int(next(7)); {
	case kind == json.Number:
		return num(next(1<<31) << (next(34)) >> next(20))
	case kind == json.String:
		return str(text())
	case kind < json.Number || depth == json.Depth:
		return json.Value{Kind: kind % json.Number}
	default:
		v := json.Value{Kind: kind}
		for i := range next(5) {
			v.List = append(v.List, random(seed, depth+1))
			if kind == json.Object {
				v.Keys = append(v.Keys, text()+strconv.Itoa(int(i)))
			}
		}
		return v
	}
}

// told is the value of which b is a text, and whether there is one, as the library's reader and the document's limits tell it.
func told(b []byte) (json.Value, bool) {
	if len(b) > json.Most || !utf8.Valid(b) || !std.Valid(b) || hasHalves(b) {
		return json.Value{}, false
	}
	d := std.NewDecoder(bytes.NewReader(b))
	d.UseNumber()
	return toldNext(d, 0)
}

func toldNext(d *std.Decoder, depth int) (json.Value, bool) {
	token, err := d.Token()
	if err == io.EOF {
		return json.Value{}, false
	}
	switch x := token.(type) {
	case nil:
		return json.Value{Kind: json.Null}, true
	case bool:
		if x {
			return json.Value{Kind: json.True}, true
		}
		return json.Value{Kind: json.False}, true
	case std.Number:
		n, err := strconv.ParseUint(string(x), 10, 64)
		return num(n), err == nil
	case string:
		return str(x), true
	}
	v := json.Value{Kind: json.Array}
	if token == std.Delim('{') {
		v.Kind = json.Object
	}
	for d.More() {
		if v.Kind == json.Object {
			name, _ := d.Token()
			if slices.Contains(v.Keys, name.(string)) {
				return json.Value{}, false
			}
			v.Keys = append(v.Keys, name.(string))
		}
		x, is := toldNext(d, depth+1)
		if !is {
			return json.Value{}, false
		}
		v.List = append(v.List, x)
	}
	d.Token()
	return v, depth < json.Depth
}

// hasHalves tells whether one of the codes of a JSON text is half a rune without the other half.
func hasHalves(b []byte) bool {
	code := func(i int) uint64 {
		if i+6 > len(b) || b[i] != '\\' || b[i+1] != 'u' {
			return 0
		}
		n, _ := strconv.ParseUint(string(b[i+2:i+6]), 16, 32)
		return n
	}
	for i := 0; i < len(b); i++ {
		if b[i] != '\\' {
			continue
		}
		switch n, behind := code(i), code(i+6); {
		case n>>10 == 0xd800>>10 && behind>>10 == 0xdc00>>10:
			i += 11
		case n>>11 == 0xd800>>11:
			return true
		default:
			i++
		}
	}
	return false
}

// shown is v as a remark tells it: no more of it than that, as lists may stand in themselves.
func shown(v json.Value) string {
	out := ""
	var lay func(v json.Value)
	lay = func(v json.Value) {
		if len(out) > 200 {
			return
		}
		out += "{" + strconv.Itoa(v.Kind) + " " + strconv.FormatUint(v.Num, 10) + " " + strconv.Quote(v.Str[:min(len(v.Str), 50)])
		for _, k := range v.Keys[:min(len(v.Keys), 20)] {
			out += " " + strconv.Quote(k[:min(len(k), 50)])
		}
		for _, x := range v.List[:min(len(v.List), 20)] {
			lay(x)
		}
		out += "}"
	}
	lay(v)
	return out
}

func wantText(t *testing.T, v json.Value, want string) {
	t.Helper()
	if got, e := json.Text(v); e != api.OK || string(got) != want {
		t.Errorf("Text(%s): got %.200q, error %d, want %.200q", shown(v), got, e, want)
	}
}

func wantNoText(t *testing.T, what string, v json.Value, want api.Errno) {
	t.Helper()
	if got, e := json.Text(v); e != want || len(got) != 0 {
		t.Errorf("Text of %s: got %.200q, error %d, want nothing, error %d", what, got, e, want)
	}
}

func wantParse(t *testing.T, text string, want json.Value) {
	t.Helper()
	if got, e := json.Parse([]byte(text)); e != api.OK || !equal(got, want) {
		t.Errorf("Parse(%.200q): got %s, error %d, want %s", text, shown(got), e, shown(want))
	}
}

func wantError(t *testing.T, text string, want api.Errno) {
	t.Helper()
	if got, e := json.Parse([]byte(text)); e != want || !isNull(got) {
		t.Errorf("Parse(%.200q): got %s, error %d, want a Null, error %d", text, shown(got), e, want)
	}
}

// wantAsTold wants of b what the library's reader tells within the document's limits.
func wantAsTold(t *testing.T, b []byte) {
	t.Helper()
	want, is := told(b)
	got, e := json.Parse(b)
	switch {
	case len(b) > json.Most && (e != api.ErrLong || !isNull(got)):
		t.Errorf("Parse of %d bytes: got %s, error %d", len(b), shown(got), e)
	case is && (e != api.OK || !equal(got, want)):
		t.Errorf("Parse(%.200q): got %s, error %d, want %s", b, shown(got), e, shown(want))
	case !is && len(b) <= json.Most && (e != api.ErrForm || !isNull(got)):
		t.Errorf("Parse(%.200q): got %s, error %d, want a Null, error %d", b, shown(got), e, api.ErrForm)
	}
}
