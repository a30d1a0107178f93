package json_test

import (
	"math"
	"strconv"
	"strings"
	"testing"

	"escritoire/json"
)

// mayBe are values that may be, no two of which are the same.
func mayBe() []json.Value {
	return []json.Value{
		{}, {Kind: json.False}, {Kind: json.True},
		num(0), num(1), num(10), num(math.MaxInt64), num(math.MaxInt64 + 1), num(math.MaxUint64),
		str(""), str("a"), str("A"), str("a\x00"), str("\x00"), str("é"), str("e\u0301"), str("\ufffd"), str("\ud7ff\ue000\uffff\U00010000\U0010ffff"), str("null"), str(strings.Repeat("a", 1000)),
		list(), list(list()), list(list(), list()), list(object(nil)), list(json.Value{}), list(json.Value{}, json.Value{}), list(num(0)), list(num(1), num(2)), list(num(2), num(1)), list(str("")),
		list(list(num(1)), num(2)), list(list(num(1), num(2))), list(num(1), list(num(2))),
		object(nil), object(keys(""), json.Value{}), object(keys("a"), json.Value{}), object(keys("a"), num(1)), object(keys("b"), num(1)), object(keys("a", "b"), num(1), num(2)), object(keys("b", "a"), num(2), num(1)), object(keys("a", "b"), num(2), num(1)),
		object(keys("a", "A", "a ", "á", "a\u0301", "a\x00"), num(1), num(1), num(1), num(1), num(1), num(1)),
		object(keys("a"), object(keys("a"), object(keys("a"), num(1)))),
		nested(7, num(1), json.Array), nested(8, num(1), json.Array), nested(8, num(1), json.Object), nested(8, num(1), json.Array, json.Object), nested(8, num(1), json.Object, json.Array), nested(7, list(), json.Array), nested(7, object(nil), json.Array), nested(7, object(nil), json.Object), nested(8, str("a"), json.Array),
		list(nested(7, num(1), json.Array), nested(7, num(2), json.Object), num(3)),
	}
}

// mayNotBe are values that may not be, by what is wrong with them, no two of which are the same.
func mayNotBe() map[string]json.Value {
	wrong := map[string]json.Value{
		"a null with a Num":                    {Num: 1},
		"a null with a Str":                    {Str: "a"},
		"a null with a List":                   {List: []json.Value{{}}},
		"a null with Keys":                     {Keys: keys("")},
		"a null with all":                      {Num: 1, Str: "a", List: []json.Value{{}}, Keys: keys("a")},
		"a false with a Num":                   {Kind: json.False, Num: 1},
		"a false with a Str":                   {Kind: json.False, Str: "a"},
		"a false with a List":                  {Kind: json.False, List: []json.Value{{}}},
		"a false with Keys":                    {Kind: json.False, Keys: keys("a")},
		"a true with a Num":                    {Kind: json.True, Num: math.MaxUint64},
		"a true with a Str":                    {Kind: json.True, Str: "true"},
		"a true with a List":                   {Kind: json.True, List: []json.Value{{}}},
		"a true with Keys":                     {Kind: json.True, Keys: keys("a")},
		"a number with a Str":                  {Kind: json.Number, Num: 1, Str: "1"},
		"a number with a List":                 {Kind: json.Number, Num: 1, List: []json.Value{{}}},
		"a number with Keys":                   {Kind: json.Number, Num: 1, Keys: keys("a")},
		"a string with a Num":                  {Kind: json.String, Str: "a", Num: 1},
		"a string with a List":                 {Kind: json.String, Str: "a", List: []json.Value{{}}},
		"a string with Keys":                   {Kind: json.String, Str: "a", Keys: keys("a")},
		"a list with a Num":                    {Kind: json.Array, Num: 1},
		"a list with a Str":                    {Kind: json.Array, Str: "a"},
		"a list with Keys":                     {Kind: json.Array, List: []json.Value{{}}, Keys: keys("a")},
		"an empty list with Keys":              {Kind: json.Array, Keys: keys("a")},
		"an object with a Num":                 {Kind: json.Object, Num: 1},
		"an object with a Str":                 {Kind: json.Object, Str: "a"},
		"more Keys than List":                  {Kind: json.Object, Keys: keys("a")},
		"more List than Keys":                  {Kind: json.Object, List: []json.Value{{}}},
		"two Keys, one in List":                {Kind: json.Object, Keys: keys("a", "b"), List: []json.Value{{}}},
		"one Key, two in List":                 {Kind: json.Object, Keys: keys("a"), List: []json.Value{{}, {}}},
		"a name twice, one in List":            {Kind: json.Object, Keys: keys("a", "a"), List: []json.Value{{}}},
		"a name twice":                         object(keys("a", "a"), num(1), num(1)),
		"an empty name twice":                  object(keys("", ""), num(1), num(2)),
		"a name twice, far off":                object(keys("a", "b", "c", "a"), num(1), num(2), num(3), num(4)),
		"a kind above all":                     {Kind: json.Object + 1},
		"a kind below all":                     {Kind: json.Null - 1},
		"the greatest kind":                    {Kind: math.MaxInt},
		"the least kind":                       {Kind: math.MinInt},
		"a kind beyond 32 bits":                {Kind: 1 << 32},
		"nine lists":                           nested(9, num(1), json.Array),
		"nine lists, the last of them empty":   nested(8, list(), json.Array),
		"nine objects":                         nested(9, num(1), json.Object),
		"nine objects, the last of them empty": nested(8, object(nil), json.Object),
		"nine by turns":                        nested(9, num(1), json.Array, json.Object),
		"nine behind one":                      list(num(1), list(), nested(8, num(1), json.Object)),
		"ten lists":                            nested(10, num(1), json.Array),
		"many lists":                           nested(1<<16, num(1), json.Array),
		"many objects":                         nested(1<<16, num(1), json.Object),
		"a list in itself":                     endless(1),
		"a list in one in itself":              endless(2, str("a")),
		"a list of itself behind a number":     endless(3, num(1)),
		"many shared ones, nine deep":          shared(9, num(1)),
		"many shared ones with a fault":        shared(8, json.Value{Kind: json.Number, Str: "a"}),
	}
	for s, what := range map[string]string{
		"\xff": "ff", "\x80": "80", "\xc3": "c3", "a\xc3": "a, c3", "\xc3a": "c3, a", "\xc0\x80": "a long 00", "\xc1\xbf": "a long 7f", "\xe0\x9f\xbf": "a long 7ff", "\xf0\x8f\xbf\xbf": "a long ffff",
		"\xed\xa0\x80": "d800", "\xed\xbf\xbf": "dfff", "\xed\xa0\xbd\xed\xb8\x80": "two halves", "\xf4\x90\x80\x80": "110000", "\xf8\x88\x80\x80\x80": "five bytes", "\xe2\x82": "two of three bytes", "é\xa9": "a byte too many",
	} {
		wrong["a string of "+what] = str(s)
		wrong["a name of "+what] = object(keys(s), num(1))
		wrong["another name of "+what] = object(keys("a", s), num(1), num(2))
	}
	return wrong
}

// P4.1: May

func TestMay(t *testing.T) {
	for _, v := range mayBe() {
		if !json.May(v) {
			t.Errorf("May(%s): false", shown(v))
		}
	}
	for what, v := range mayNotBe() {
		if json.May(v) {
			t.Errorf("May of %s: true", what)
		}
	}
}

func TestMayLooksAtAllThatIsIn(t *testing.T) {
	for what, v := range mayNotBe() {
		for _, around := range []json.Value{
			list(v), list(num(1), v), list(v, num(1)), list(list(), list(num(1), v)), object(keys("a"), v), object(keys("a", "b", "c"), num(1), v, num(2)), list(object(keys("a"), list(v))),
		} {
			if json.May(around) {
				t.Errorf("May of %s, in others: true", what)
			}
		}
	}
}

// To R4 nil and empty lists are one.
func TestMayOfEmptyLists(t *testing.T) {
	for kind := json.Null; kind <= json.Object; kind++ {
		for _, v := range []json.Value{{Kind: kind}, {Kind: kind, List: []json.Value{}}, {Kind: kind, Keys: []string{}}, {Kind: kind, List: []json.Value{}, Keys: []string{}}} {
			if !json.May(v) || !json.Same(v, json.Value{Kind: kind}) || !json.Same(json.Value{Kind: kind}, v) {
				t.Errorf("%#v: May is %v, Same as without lists is %v", v, json.May(v), json.Same(v, json.Value{Kind: kind}))
			}
		}
	}
}

func TestMayOfManyNames(t *testing.T) {
	v := json.Value{Kind: json.Object}
	for i := range 1 << 17 {
		v.Keys = append(v.Keys, strings.Repeat("a", i%7)+string(rune(0x10000+i/7)))
		v.List = append(v.List, num(1))
	}
	if !json.May(v) {
		t.Error("May of many names: false")
	}
	for _, last := range []string{v.Keys[0], v.Keys[1<<16], "\xff"} {
		v.Keys[len(v.Keys)-1] = last
		if json.May(v) {
			t.Errorf("May of many names, the last of which is %q: true", last)
		}
	}
}

func TestMayOfManySharedLists(t *testing.T) {
	if v := shared(8, num(1)); !json.May(v) {
		t.Error("May of shared lists, 8 deep: false")
	}
	// Lists that begin at one place, but do not end at one.
	l := []json.Value{num(1), {Kind: 7}}
	if json.May(list(list(l[:1]...), list(l...))) || json.May(list(list(l...), list(l[:1]...))) || !json.May(list(list(l[:1]...), list(l[:1]...))) {
		t.Error("May of parts of one list")
	}
	one := list(num(1))
	deep := nested(6, one, json.Array)
	if !json.May(list(one, deep, one)) {
		t.Error("May of a list that stands in others in unlike depths: false")
	}
	if json.May(list(one, list(deep), one)) {
		t.Error("May of a list that stands in others, once too deep: true")
	}
}

// P4.1: Same

func TestSame(t *testing.T) {
	type named struct {
		what string
		v    json.Value
	}
	var all []named
	for i, v := range mayBe() {
		all = append(all, named{"value " + strconv.Itoa(i) + " of those that may be", v})
	}
	for what, v := range mayNotBe() {
		all = append(all, named{what, v})
	}
	for i, a := range all {
		for j, b := range all {
			if got := json.Same(a.v, b.v); got != (i == j) {
				t.Errorf("Same of %s and %s: %v", a.what, b.what, got)
			}
		}
	}
}

func TestSameOfCopies(t *testing.T) {
	for _, v := range mayBe() {
		if !json.Same(v, copied(v)) {
			t.Errorf("Same of %s and a copy: false", shown(v))
		}
	}
	for range 10 {
		a, b := nested(1<<16, num(1), json.Array, json.Object), nested(1<<16, num(1), json.Array, json.Object)
		if !json.Same(a, b) {
			t.Error("Same of two deep ones: false")
		}
	}
	if json.Same(nested(1<<16, num(1), json.Array), nested(1<<16, num(2), json.Array)) || json.Same(nested(1<<16, num(1), json.Array), nested(1<<16+1, num(1), json.Array)) {
		t.Error("Same of two unlike deep ones: true")
	}
}

// Each thing that a value has is looked at, of any kind, and at any place.
func TestSameLooksAtAll(t *testing.T) {
	whole := json.Value{Kind: json.Null, Num: 1, Str: "a", Keys: keys("a", "b"), List: []json.Value{num(1), str("b"), list(num(2))}}
	changes := map[string]func(v *json.Value){
		"Kind":              func(v *json.Value) { v.Kind++ },
		"Num":               func(v *json.Value) { v.Num++ },
		"Num's highest bit": func(v *json.Value) { v.Num ^= 1 << 63 },
		"Str":               func(v *json.Value) { v.Str = "b" },
		"no Str":            func(v *json.Value) { v.Str = "" },
		"Str is longer":     func(v *json.Value) { v.Str = "aa" },
		"a Key":             func(v *json.Value) { v.Keys[1] = "c" },
		"Keys' order":       func(v *json.Value) { v.Keys[0], v.Keys[1] = v.Keys[1], v.Keys[0] },
		"a Key less":        func(v *json.Value) { v.Keys = v.Keys[:1] },
		"a Key more":        func(v *json.Value) { v.Keys = append(v.Keys, "") },
		"no Keys":           func(v *json.Value) { v.Keys = nil },
		"List's order":      func(v *json.Value) { v.List[0], v.List[1] = v.List[1], v.List[0] },
		"one in List":       func(v *json.Value) { v.List[1] = str("c") },
		"one less in List":  func(v *json.Value) { v.List = v.List[:2] },
		"one more in List":  func(v *json.Value) { v.List = append(v.List, json.Value{}) },
		"no List":           func(v *json.Value) { v.List = nil },
		"one further in":    func(v *json.Value) { v.List[2].List[0].Num = 3 },
		"a Str further in":  func(v *json.Value) { v.List[2].List[0].Str = "a" },
		"a Key further in":  func(v *json.Value) { v.List[2].Keys = keys("") },
	}
	for kind := -1; kind <= json.Object+1; kind++ {
		whole.Kind = kind
		if !json.Same(whole, copied(whole)) {
			t.Errorf("Same of two of kind %d: false", kind)
		}
		for what, change := range changes {
			other := copied(whole)
			change(&other)
			for _, x := range [][2]json.Value{{whole, other}, {other, whole}, {list(whole), list(other)}, {list(num(1), whole, whole), list(num(1), whole, other)}} {
				if json.Same(x[0], x[1]) {
					t.Errorf("Same of two of kind %d, unlike in %s: true", kind, what)
				}
			}
		}
	}
}

// A list that stands in itself is, whatever lists it is made of, the same as one that has the same in it at each depth.
func TestSameOfEndlessLists(t *testing.T) {
	for _, n := range []int{1, 2, 3, 5} {
		for _, m := range []int{1, 2, 4, 6} {
			if !json.Same(endless(n), endless(m)) || !json.Same(endless(n, num(1)), endless(m, num(1))) {
				t.Errorf("Same of endless lists, of %d and of %d: false", n, m)
			}
			if json.Same(endless(n, num(1)), endless(m, num(2))) || json.Same(endless(n, num(1)), endless(m)) || json.Same(endless(n), nested(100, num(1), json.Array)) || json.Same(nested(100, list(), json.Array), endless(n)) {
				t.Errorf("Same of unlike endless lists, of %d and of %d: true", n, m)
			}
		}
	}
}

func TestSameOfManySharedLists(t *testing.T) {
	a := shared(8, num(1))
	if !json.Same(a, a) || !json.Same(a, shared(8, num(1))) {
		t.Error("Same of shared lists: false")
	}
	if json.Same(a, shared(8, num(2))) || json.Same(a, shared(7, num(1))) {
		t.Error("Same of unlike shared lists: true")
	}
	// Lists that share their memory, but not where they begin or end.
	l := []json.Value{num(1), num(1), num(2)}
	m := []json.Value{num(1), num(1), num(3)}
	parts := func(l []json.Value, ends ...int) json.Value {
		v := list()
		for _, n := range ends {
			v.List = append(v.List, list(l[:n]...))
		}
		return v
	}
	if !json.Same(list(l[:1]...), list(l[1:2]...)) || json.Same(list(l[:2]...), list(l[1:]...)) || !json.Same(parts(l, 1, 2, 2, 1), parts(m, 1, 2, 2, 1)) {
		t.Error("Same of parts of one list")
	}
	for _, ends := range [][]int{{2, 3}, {3, 2}, {1, 2, 3}, {3, 2, 1}, {2, 3, 2}} {
		if json.Same(parts(l, ends...), parts(m, ends...)) {
			t.Error("Same of parts of two lists, one of which has what is unlike in them: true")
		}
	}
}

// P4.1: Get

func wantGet(t *testing.T, v json.Value, key string, want json.Value) {
	t.Helper()
	if got, is := json.Get(v, key); !is || !equal(got, want) {
		t.Errorf("Get(%s, %q): got %s, %v, want %s", shown(v), key, shown(got), is, shown(want))
	}
}

func wantNone(t *testing.T, v json.Value, key string) {
	t.Helper()
	if got, is := json.Get(v, key); is || !isNull(got) {
		t.Errorf("Get(%s, %q): got %s, %v, want a Null, false", shown(v), key, shown(got), is)
	}
}

func TestGet(t *testing.T) {
	v := object(keys("a", "", "b", "A", "é", "\x00", "n"), num(1), num(2), list(num(3), object(keys("c"), num(4))), num(5), num(6), num(7), json.Value{})
	for i, k := range v.Keys {
		wantGet(t, v, k, v.List[i])
	}
	for _, k := range []string{"c", "aa", "B", "e", "\xc3", " ", "a ", "\x00\x00", "null"} {
		wantNone(t, v, k)
	}
	wantNone(t, object(nil), "")
	wantNone(t, object(nil), "a")
}

func TestGetOfNoObject(t *testing.T) {
	for _, v := range mayBe() {
		if v.Kind != json.Object {
			wantNone(t, v, "")
			wantNone(t, v, "a")
		}
	}
	for _, kind := range []int{-1, json.Null, json.False, json.True, json.Number, json.String, json.Array, json.Object + 1, math.MaxInt, math.MinInt} {
		wantNone(t, json.Value{Kind: kind, Keys: keys("a"), List: []json.Value{num(1)}}, "a")
	}
	for _, v := range []json.Value{
		{Kind: json.Object, Keys: keys("a")}, {Kind: json.Object, Keys: keys("a", "b"), List: []json.Value{num(1)}}, {Kind: json.Object, Keys: keys("a"), List: []json.Value{num(1), num(2)}}, {Kind: json.Object, List: []json.Value{num(1)}},
	} {
		wantNone(t, v, "a")
		wantNone(t, v, "b")
		wantNone(t, v, "")
	}
}

// An object need not be one that may be.
func TestGetOfObjectsThatMayNotBe(t *testing.T) {
	wantGet(t, object(keys("b", "a", "a", "b"), num(1), num(2), num(3), num(4)), "a", num(2))
	wantGet(t, object(keys("b", "a", "a", "b"), num(1), num(2), num(3), num(4)), "b", num(1))
	wantGet(t, object(keys("\xff", "a"), num(1), num(2)), "\xff", num(1))
	wantGet(t, object(keys("\xff", "a"), num(1), num(2)), "a", num(2))
	wantGet(t, json.Value{Kind: json.Object, Num: 1, Str: "s", Keys: keys("a"), List: []json.Value{num(1)}}, "a", num(1))
	odd := json.Value{Kind: -7, Num: 1, Str: "\xff", Keys: keys("x", "x"), List: []json.Value{num(1), {Kind: 9, Str: "s"}, list()}}
	wantGet(t, object(keys("a"), odd), "a", odd)
	deep := nested(1<<16, num(1), json.Array, json.Object)
	wantGet(t, object(keys("a"), deep), "a", deep)
}

func TestGetOfEndlessLists(t *testing.T) {
	for n := 1; n < 4; n++ {
		v := endless(n, str("s"), object(keys("k"), num(1)))
		got, is := json.Get(object(keys("b", "a"), num(1), v), "a")
		if !is || !json.Same(got, v) || json.Same(got, endless(n, str("s"), object(keys("k"), num(2)))) {
			t.Errorf("Get of a list that stands in itself, %d lists further in", n)
		}
		v.List[0] = num(7)
		if got.List[0].Str != "s" {
			t.Error("what Get told shares memory with the argument")
		}
	}
	// The first part of a list stands in the whole of it.
	l := []json.Value{num(1), num(2)}
	l[0] = list(l[:1]...)
	whole := list(l...)
	if got, is := json.Get(object(keys("a"), whole), "a"); !is || !json.Same(got, whole) || len(got.List[0].List) != 1 {
		t.Error("Get of a list whose first part stands in it")
	}
	within := object(keys("a"), json.Value{})
	within.List[0] = within
	if got, is := json.Get(within, "a"); !is || !json.Same(got, within) {
		t.Error("Get of an object that stands in itself")
	}
}

// R3

func TestGetTellsNewMemory(t *testing.T) {
	one := list(num(1), object(keys("k", "l"), str("s"), list(num(2))))
	v := object(keys("a", "b"), object(keys("x", "y"), one, one), num(1))
	want := copied(v)
	got, _ := json.Get(v, "a")
	spoil(got)
	if !equal(v, want) {
		t.Errorf("a change of what Get told changed the argument: %s", shown(v))
	}
	got, _ = json.Get(v, "a")
	spoil(got.List[0])
	if !equal(got.List[1], want.List[0].List[1]) {
		t.Errorf("two lists of what Get told share memory: %s", shown(got))
	}
	got, _ = json.Get(v, "a")
	spoil(v)
	if !equal(got, want.List[0]) {
		t.Errorf("a change of the argument changed what Get told: %s", shown(got))
	}
}

func TestWhatIsHandedInIsOnlyRead(t *testing.T) {
	for _, v := range mayBe() {
		before := copied(v)
		json.May(v)
		json.Same(v, before)
		json.Get(v, "a")
		json.Text(v)
		if !equal(v, before) {
			t.Errorf("%s has become %s", shown(before), shown(v))
		}
	}
}
