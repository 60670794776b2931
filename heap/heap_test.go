package heap

import (
	"math"
	"slices"
	"strings"
	"testing"

	"delver/api"
	"delver/layout"
)

// family is a program with classes and interfaces of each kind, most of them ahead of what they come of.
const family = `
class Low extends Mid implements Small { field deep : Low [ ] ; static s : int ; field last : int ; }
class Kin extends Mid { static u : int [ ] ; }
class Mid extends High { static t : Low ; field n : int ; }
class High implements Left { field i : int ; field r : int [ ] ; field a : Low ; field b : Left ; field c : Left [ ] ; field o : Object ; }
interface Small extends Left , Right { }
interface Left extends Top { }
interface Right extends Top { }
interface Top { }
class Oops extends NumError implements Top { field why : int ; }
`

func TestZero(t *testing.T) {
	if v := Zero(typeOf("int")); v != num(0) {
		t.Error(v)
	}
	if v := Zero(api.Type{Kind: api.Int, Name: "A"}); v != num(0) {
		t.Error(v)
	}
	for _, word := range strings.Fields("void null nothing A Object int[] A[] Object[]") {
		if v := Zero(typeOf(word)); v != null {
			t.Error(word, v)
		}
	}
	for _, kind := range []int{0, -1, -api.Int, api.Nothing + 1, 1 << 40, math.MinInt, math.MaxInt} {
		for _, name := range []string{"", "A", "int"} {
			if v := Zero(api.Type{Kind: kind, Name: name}); v != null {
				t.Error(kind, name, v)
			}
		}
	}
}

// checkNew holds what New answers, which stands behind what was there.
func checkNew(t *testing.T, p api.Program, h []api.Obj, class, want string) {
	t.Helper()
	next, at, e := New(p, h, class)
	if !isSame(next, slices.Concat(h, heapOf(want))) || at != len(h) || e != api.OK {
		t.Errorf("%s: %v %d %d, not %s", class, next, at, e, want)
	}
}

func TestNew(t *testing.T) {
	p := read(t, family)
	for _, c := range [][2]string{
		{"High", "High 0 - - - - -"}, {"Mid", "Mid 0 - - - - - 0"}, {"Kin", "Kin 0 - - - - - 0"}, {"Low", "Low 0 - - - - - 0 - 0"}, {"Oops", "Oops 0"},
		{"Object", "Object"}, {"Error", "Error"}, {"NullError", "NullError"}, {"RangeError", "RangeError"}, {"CastError", "CastError"}, {"NumError", "NumError"}, {"SizeError", "SizeError"}, {"DepthError", "DepthError"},
	} {
		for _, h := range []string{"", "int[]", "int[] 5 6 7", "Mid 1 @0 @1 @2 - - 9 | Low[] @0 @7 - | X 1 2 | int @-7"} {
			checkNew(t, p, heapOf(h), c[0], c[1])
		}
	}
	for _, p := range []api.Program{{}, read(t, "class A { }"), read(t, "class A { static x : int ; static y : A ; }")} {
		checkNew(t, p, nil, "Object", "Object")
		if len(p.Classes) > 0 {
			checkNew(t, p, heapOf("A | A"), "A", "A")
		}
	}
}

func TestNewOfNobody(t *testing.T) {
	p := read(t, family)
	for _, name := range []string{"", "X", "Small", "Left", "Top", "low", "Lo", "Lows", "Low[]", "int", "int[]", "void", "s", "why", "extends"} {
		if next, at, e := New(p, heapOf("int[] 5"), name); next != nil || at != 0 || e != api.ErrNone {
			t.Error(name, next, at, e)
		}
	}
}

func TestNewOfProgramsThatAreRefused(t *testing.T) {
	for _, p := range refusedPrograms(t) {
		want := layout.Check(p)
		if want == api.OK {
			t.Errorf("no fault: %+v", p)
		}
		for _, name := range []string{"A", "B", "Object", "NumError", "X", ""} {
			if next, at, e := New(p, heapOf("int[] 5"), name); next != nil || at != 0 || e != want {
				t.Errorf("%s of %+v: %v %d %d, not %d", name, p, next, at, e, want)
			}
		}
	}
}

// refusedPrograms answers programs that layers 3, 4 and 5 refuse.
func refusedPrograms(t *testing.T) []api.Program {
	t.Helper()
	l := []api.Program{
		{Classes: make([]api.Class, 1)},
		{Classes: make([]api.Class, api.MaxClasses+1)},
		{Classes: []api.Class{{Name: "A", Fields: []api.Field{{Name: "x"}}}}},
	}
	for _, text := range []string{
		"class A { } class A { }", "class Object { }", "class A extends X { }", "class A implements A { }", "class A extends A { }", "interface B extends B { } class A { }",
		"interface A { field x : int ; }", "class A { method f ( ) int ; }", "class A { field x : void ; }", "class A { field x : int ; static x : int ; }", "class A { field x : X ; }",
		"class A { field x : int ; } class B extends A { field x : int ; }", "class A { method f ( ) int locals 1 { } } class B extends A { method f ( ) void locals 1 { } }",
		"interface I { method f ( ) int ; } class A implements I { }", "interface I { method f ( ) int ; } class A implements I { method f ( ) void locals 1 { } }",
	} {
		l = append(l, read(t, text))
	}
	return l
}

// What a body does is not asked by New, by Is: layer 7 refuses this one.
func TestBodiesThatAreNotSound(t *testing.T) {
	p := read(t, "class A { field x : int ; method f ( ) int locals 1 { pop ; } }")
	checkNew(t, p, nil, "A", "A 0")
	if !Is(p, heapOf("A 0"), at(0), typeOf("A")) || !Is(p, nil, num(1), typeOf("int")) {
		t.Error("Is asks for bodies")
	}
	if e := Check(p, "A", "f", api.Input{}, 0, 0); e != api.ErrStack {
		t.Error(e)
	}
}

func TestRow(t *testing.T) {
	types := []api.Type{typeOf("int[]"), typeOf("A[]"), typeOf("Object[]"), typeOf("X[]"), {Kind: api.RefRow}, {Kind: api.IntRow, Name: "A"}}
	for _, of := range types {
		nought := null
		if of.Kind == api.IntRow {
			nought = num(0)
		}
		for n := range api.MaxRow + 1 {
			for _, h := range []string{"", "A 1 - @3", "int[] 5 6 7 | X[] @0 @-7 | void"} {
				next, at, e := Row(heapOf(h), of, n)
				row := api.Obj{Type: of, Slots: slices.Repeat([]api.Val{nought}, n)}
				if !isSame(next, append(heapOf(h), row)) || at != len(heapOf(h)) || e != api.OK {
					t.Errorf("%d of %+v behind %q: %v %d %d", n, of, h, next, at, e)
				}
			}
		}
	}
}

func TestRowsThatMayNotBe(t *testing.T) {
	refused := func(of api.Type, n int) {
		t.Helper()
		if next, at, e := Row(heapOf("A 1"), of, n); next != nil || at != 0 || e != api.ErrArg {
			t.Errorf("%d of %+v: %v %d %d", n, of, next, at, e)
		}
	}
	for _, n := range []int{-1, api.MaxRow + 1, -2, api.MaxRow + 2, 1 << 31, 1 << 40, math.MinInt, math.MaxInt} {
		refused(typeOf("int[]"), n)
		refused(typeOf("A[]"), n)
	}
	for _, n := range []int{-1, 0, 1, api.MaxRow, api.MaxRow + 1} {
		for _, word := range strings.Fields("void int A Object null nothing") {
			refused(typeOf(word), n)
		}
		for _, kind := range []int{0, -1, api.Nothing + 1, -api.IntRow, 1<<32 + api.IntRow, math.MinInt, math.MaxInt} {
			refused(api.Type{Kind: kind}, n)
			refused(api.Type{Kind: kind, Name: "A"}, n)
		}
	}
}

// mixed is a heap of the family with one of each, at these places.
const mixed = "High | Mid | Kin | Low | Oops | Error | NumError | Object | int[] | Low[] | Left[] | Object[] | Small | Top | X | X[]"

// mixedIs holds, for each type, the objects of mixed that are values of it.
func mixedIs() map[string]string {
	return map[string]string{
		"High": "High Mid Kin Low", "Mid": "Mid Kin Low", "Kin": "Kin", "Low": "Low",
		"Left": "High Mid Kin Low Small", "Right": "Low Small", "Small": "Low Small", "Top": "High Mid Kin Low Oops Small Top",
		"Object": "High Mid Kin Low Oops Error NumError Object Small Top", "Error": "Oops Error NumError", "NumError": "Oops NumError", "NullError": "", "Oops": "Oops",
		"int[]": "int[]", "Low[]": "Low[]", "Left[]": "Left[]", "Object[]": "Object[]", "Mid[]": "", "High[]": "", "Top[]": "", "X[]": "X[]", "X": "",
		"int": "", "void": "", "null": "", "nothing": "",
	}
}

func TestIsOfObjects(t *testing.T) {
	p, h := read(t, family), heapOf(mixed)
	for word, wants := range mixedIs() {
		for i, name := range strings.Split(mixed, " | ") {
			want := slices.Contains(strings.Fields(wants), name)
			if Is(p, h, at(i), typeOf(word)) != want {
				t.Errorf("%s as %s: not %v", name, word, want)
			}
			if Is(p, h, num(i), typeOf(word)) != (word == "int") {
				t.Errorf("%d as %s", i, word)
			}
		}
	}
}

// Of a row of ints a Name is not looked at, of the object neither.
func TestIsOfRowsOfIntsWithNames(t *testing.T) {
	p := read(t, family)
	h := []api.Obj{{Type: api.Type{Kind: api.IntRow, Name: "Low"}}, {Type: typeOf("int[]")}, {Type: typeOf("Low[]")}, {Type: api.Type{Kind: api.RefRow}}}
	for _, name := range []string{"", "Low", "X", "int"} {
		for i, want := range []bool{true, true, false, false} {
			if Is(p, h, at(i), api.Type{Kind: api.IntRow, Name: name}) != want {
				t.Error(name, i)
			}
			if Is(p, h, at(i), api.Type{Kind: api.RefRow, Name: name}) != (name == "Low" && i == 2 || name == "" && i == 3) {
				t.Error(name, i)
			}
			if Is(p, h, at(i), api.Type{Kind: api.Ref, Name: name}) {
				t.Error(name, i)
			}
		}
	}
}

func TestIsOfInts(t *testing.T) {
	p, h := read(t, family), heapOf(mixed)
	for _, n := range []int{api.Least, api.Least + 1, -2, -1, 0, 1, 15, 16, api.Most - 1, api.Most} {
		if !Is(p, h, num(n), typeOf("int")) || !Is(p, nil, num(n), typeOf("int")) {
			t.Error(n)
		}
	}
	for _, n := range []int{api.Least - 1, api.Most + 1, 1 << 32, -1 << 32, math.MinInt, math.MaxInt} {
		if Is(p, h, num(n), typeOf("int")) {
			t.Error(n)
		}
	}
	for _, n := range []int{-2, -1, 0, 1, 15, 16} {
		if Is(p, h, at(n), typeOf("int")) {
			t.Error("a reference", n)
		}
	}
}

// Null is a value of each Ref and row, whatever its Name; an int of -1 is not, nor is a reference beyond the heap's ends.
func TestIsOfNullAndOfNothing(t *testing.T) {
	p, h := read(t, family), heapOf(mixed)
	words := strings.Fields("High Small Object Error X int int[] Low[] Object[] X[] void null nothing")
	for _, word := range words {
		of := typeOf(word)
		may := of.Kind == api.Ref || of.Kind == api.IntRow || of.Kind == api.RefRow
		if Is(p, h, null, of) != may || Is(p, nil, null, of) != may {
			t.Error("null", word)
		}
		for _, n := range []int{-2, -3, len(h), len(h) + 1, -1 << 31, 1 << 32, math.MinInt, math.MaxInt} {
			if Is(p, h, at(n), of) {
				t.Error(n, word)
			}
		}
		if Is(p, nil, at(0), of) || of.Kind != api.Int && Is(p, h, num(-1), of) {
			t.Error(word)
		}
	}
	for _, of := range []api.Type{{Kind: api.Ref}, {Kind: api.RefRow}, {Kind: api.IntRow, Name: "int"}} {
		if !Is(p, h, null, of) {
			t.Error(of)
		}
	}
}

func TestIsOfTypesThatNoValueHas(t *testing.T) {
	p, h := read(t, family), heapOf(mixed+"| void | null | nothing")
	h = append(h, api.Obj{}, api.Obj{Type: api.Type{Name: "Low"}}, api.Obj{Type: api.Type{Kind: 8, Name: "Low"}}, api.Obj{Type: api.Type{Kind: api.Int}})
	for _, kind := range []int{0, api.Void, api.Null, api.Nothing, 8, -1, -api.Ref, 1<<32 + api.Ref, math.MinInt, math.MaxInt} {
		for _, name := range []string{"", "Low", "Object", "X"} {
			for n := -2; n <= len(h); n++ {
				if of := (api.Type{Kind: kind, Name: name}); Is(p, h, at(n), of) || Is(p, h, num(n), of) {
					t.Error(of, n)
				}
			}
		}
	}
	// what is of such a type is no object of a class, and no row
	for n := len(heapOf(mixed)); n < len(h); n++ {
		for word := range mixedIs() {
			if Is(p, h, at(n), typeOf(word)) {
				t.Error(h[n], word)
			}
		}
	}
}

// Of a program that is refused nothing is a value, though of a program of nothing an int is.
func TestIsOfProgramsThatAreRefused(t *testing.T) {
	h := heapOf("A | Object | int[]")
	for _, p := range refusedPrograms(t) {
		for _, word := range strings.Fields("int A B Object int[] A[]") {
			for n := -2; n < 4; n++ {
				if Is(p, h, num(n), typeOf(word)) || Is(p, h, at(n), typeOf(word)) {
					t.Errorf("%d is of %s: %+v", n, word, p)
				}
			}
		}
	}
	if p := (api.Program{}); !Is(p, nil, num(1), typeOf("int")) || !Is(p, nil, null, typeOf("A")) || !Is(p, h, at(1), typeOf("Object")) || Is(p, h, at(0), typeOf("Object")) {
		t.Error("a program of nothing")
	}
}

// reachedIn writes down the places that are reached.
func reachedIn(h, roots string) string {
	var l []string
	for i, is := range Reached(heapOf(h), valuesOf(roots)) {
		if is {
			l = append(l, string(rune('0'+i)))
		}
	}
	return strings.Join(l, " ")
}

func TestReached(t *testing.T) {
	for _, c := range []struct{ heap, roots, want string }{
		{"", "", ""}, {"", "@0 - 0 @-1", ""},
		// no roots; ints, null and references that there are not
		{"A @0", "", ""}, {"A | A", "0 1 -1", ""}, {"A | A", "- @2 @-2 @3 @-9 @99999999999 @-99999999999", ""},
		// itself, what it refers to, what that refers to
		{"A | A | A", "@1", "1"}, {"A @1 | A | A", "@0", "0 1"}, {"A 7 @1 - | A @2 | A @3 | A", "@0", "0 1 2 3"}, {"A | A @0 | A @1 | A @2", "@3", "0 1 2 3"}, {"A | A @0 | A @1 | A @2", "@1", "0 1"},
		// ints that look like places
		{"A 1 0 | A 2 | A", "@0", "0"}, {"A 1 @2 | A | A 1", "@0", "0 2"},
		// rings of one, two and three, and a ring beside
		{"A @0", "@0", "0"}, {"A @1 | A @0 | A", "@0", "0 1"}, {"A @1 | A @0 | A", "@1", "0 1"}, {"A @1 | A @2 | A @0 | A @0", "@2", "0 1 2"}, {"A @1 | A @0 | A @3 | A @2", "@3", "2 3"},
		// rows; a type is not looked at, and may be one that no object has
		{"A[] @1 - @2 | A | A", "@0", "0 1 2"}, {"int[] 1 2 | A | A", "@0", "0"}, {"int[] @1 | A | A", "@0", "0 1"}, {"void @1 | X @2 | nothing", "@0", "0 1 2"},
		// several roots, one of them twice, one by another one
		{"A | A | A | A", "@0 @2", "0 2"}, {"A | A @0 | A | A", "@1 @1 - @0", "0 1"}, {"A @1 | A | A @1 | A", "@2 5 @0", "0 1 2"},
		// slots that lead nowhere
		{"A @-2 @5 @2 - | A | A @77", "@0", "0 2"},
	} {
		if got := reachedIn(c.heap, c.roots); got != c.want {
			t.Errorf("%q of %q: %q, not %q", c.roots, c.heap, got, c.want)
		}
		if n := len(Reached(heapOf(c.heap), valuesOf(c.roots))); n != len(heapOf(c.heap)) {
			t.Errorf("%q: of %d objects", c.heap, n)
		}
	}
}

// A long chain is gone through from its end, a wide row at once.
func TestReachedFar(t *testing.T) {
	const n = 200000
	h := make([]api.Obj, n)
	for i := range h {
		h[i].Slots = []api.Val{at(i - 1)}
	}
	if l := Reached(h, []api.Val{at(n - 2)}); len(l) != n || slices.Index(l, false) != n-1 {
		t.Error(len(l), slices.Index(l, false))
	}
	for i := range h {
		h[i].Slots = nil
		h[0].Slots = append(h[0].Slots, at(i))
	}
	if l := Reached(h, []api.Val{at(0)}); slices.Contains(l, false) {
		t.Error(slices.Index(l, false))
	}
}
