package heap

import (
	"math"
	"slices"
	"strconv"
	"strings"
	"testing"

	"delver/api"
	"delver/flow"
)

// asked is a program with methods to be asked of, beside classes whose objects they are given.
const asked = `
class T extends S implements I {
	function none ( ) void locals 0 { leave ; }
	function one ( int ) int locals 1 { load 0 ; ret ; }
	function any ( Object ) void locals 1 { leave ; }
	function node ( Node ) void locals 1 { leave ; }
	function has ( I ) void locals 1 { leave ; }
	method m ( ) void locals 1 { leave ; }
}
class R {
	function ints ( int [ ] ) void locals 1 { leave ; }
	function nodes ( Node [ ] ) void locals 1 { leave ; }
	function has ( I [ ] ) void locals 1 { leave ; }
	function objects ( Object [ ] ) void locals 1 { leave ; }
	function all ( Object , int , int [ ] , Object [ ] ) void locals 4 { leave ; }
	function two ( Node , Node ) void locals 2 { leave ; }
}
class S { function up ( ) void locals 0 { leave ; } function none ( ) void locals 0 { leave ; } method down ( ) void locals 1 { leave ; } function error ( Error ) void locals 1 { leave ; } }
interface I { method m ( ) void ; }
class Node { field next : Node ; field n : int ; static s : Node ; }
class Leaf extends Node implements I { field o : Object ; field r : int [ ] ; field l : Node [ ] ; field i : I ; method m ( ) void locals 1 { leave ; } }
class Oops extends NumError { }
class Wide extends Leaf { field p : int ; field q : int ; field z : I [ ] ; }
`

// call is what Check is asked.
type call struct {
	method        string // of a class, its name ahead
	args, heap    string
	objects, long int
}

func (c call) check(p api.Program) api.Errno {
	class, method, _ := strings.Cut(c.method, " ")
	return Check(p, class, method, api.Input{Args: valuesOf(c.args), Heap: heapOf(c.heap)}, c.objects, c.long)
}

// told holds that each is answered so.
func told(t *testing.T, want api.Errno, calls ...call) {
	t.Helper()
	p := read(t, asked)
	for _, c := range calls {
		if e := c.check(p); e != want {
			t.Errorf("%+v: %d, not %d", c, e, want)
		}
	}
}

// typed holds what is answered of inputs within the widest bounds: of each the method, the arguments, the heap.
func typed(t *testing.T, want api.Errno, inputs ...[3]string) {
	t.Helper()
	for _, in := range inputs {
		told(t, want, call{in[0], in[1], in[2], api.MaxObjects, api.MaxLen})
	}
}

func TestExampleOfTheChapter(t *testing.T) {
	p := read(t, "class Node { field next : Node ; function f ( Node ) void locals 1 { leave ; } }")
	for objects := range api.MaxObjects + 1 {
		want := api.ErrLen
		if objects > 0 {
			want = api.OK
		}
		if e := (call{"Node f", "@0", "Node @0", objects, 0}).check(p); e != want {
			t.Error(objects, e)
		}
	}
}

func TestProgramsThatAreNotSound(t *testing.T) {
	l := refusedPrograms(t)
	for _, code := range []string{"", "pop ;", "nop ;", "goto 9 ;", "new X ; pop ; leave ;", "const 1 ; ret ;", "load 1 ; leave ;", "const 1 ; throw ;", "leave ; catch A 0 1 0 ;", "leave ; catch X 0 1 0 ;", "leave ; catch Error 0 9 0 ;"} {
		l = append(l, read(t, "class A { function f ( ) void locals 0 { "+code+" } }"), read(t, "class A { function f ( ) void locals 0 { leave ; } } class B extends A { method g ( ) void locals 1 { "+code+" } }"))
	}
	for _, p := range l {
		_, _, _, want := flow.Check(p)
		if want == api.OK {
			t.Errorf("no fault: %+v", p)
		}
		for _, c := range []call{{"A f", "", "", 0, 0}, {"A g", "", "", 0, 0}, {"X f", "- -", "X | X", 9, -9}, {" ", "", "", -1, 0}} {
			if e := c.check(p); e != want {
				t.Errorf("%+v of %+v: %d, not %d", c, p, e, want)
			}
		}
	}
}

func TestMethodsThatThereAreNot(t *testing.T) {
	for _, name := range strings.Fields("none one any node m") {
		told(t, api.OK, call{method: "T none"})
		// a class that is none, one that always stands, an interface, another one, none at all
		for _, class := range []string{"X", "Object", "Error", "NumError", "I", "R", "Node", "", "t", "Tt"} {
			told(t, api.ErrNone, call{method: class + " " + name})
		}
	}
	told(t, api.OK, call{method: "S up"}, call{method: "S none"})
	for _, name := range []string{
		"", "X", "None", "nones", "non", "s", "next", "T", "Node", // no method's
		"up", "down", "error", // its super's
		"m", // of an object
	} {
		told(t, api.ErrNone, call{method: "T " + name}, call{"T " + name, "@0", "T", 1, 0})
	}
	told(t, api.ErrNone, call{method: "S down"}, call{method: "I m"}, call{method: "Oops up"}, call{method: "Leaf m"}, call{method: "Wide m"}, call{method: "Node m"})
}

func TestBounds(t *testing.T) {
	for objects := -2; objects <= api.MaxObjects+2; objects++ {
		for long := -2; long <= api.MaxLen+2; long++ {
			want := api.ErrArg
			if objects >= 0 && objects <= 3 && long >= 0 && long <= 3 {
				want = api.OK
			}
			told(t, want, call{"T none", "", "", objects, long}, call{"T any", "-", "", objects, long}, call{"R all", "- 5 - -", "", objects, long})
		}
	}
	for _, n := range []int{math.MinInt, -1 << 32, 1 << 32, math.MaxInt} {
		told(t, api.ErrArg, call{"T none", "", "", n, 0}, call{"T none", "", "", 0, n}, call{"T none", "", "", n, n})
	}
}

func TestHowManyArguments(t *testing.T) {
	for name, right := range map[string]int{"T none": 0, "T one": 1, "T any": 1, "R two": 2, "R all": 4} {
		args := strings.Fields("- 5 - - - -")
		switch name {
		case "T one":
			args[0] = "5"
		case "R two":
			args[1] = "-"
		}
		for n := range len(args) {
			want := api.ErrLen
			if n == right {
				want = api.OK
			}
			told(t, want, call{name, strings.Join(args[:n], " "), "", 0, 0}, call{name, strings.Join(args[:n], " "), "", 3, 3})
		}
	}
}

func TestHowManyObjects(t *testing.T) {
	ring := []string{"", "Node @0 1", "Node @1 1 | Node @0 2", "Node @1 1 | Node @2 2 | Node @0 3", "Node @1 1 | Node @2 2 | Node @3 3 | Node @0 4"}
	for n, heap := range ring {
		for objects := range api.MaxObjects + 1 {
			want, root := api.OK, "@0"
			if n > objects {
				want = api.ErrLen
			}
			if n == 0 {
				root = "-"
			}
			told(t, want, call{"T node", root, heap, objects, 0}, call{"T node", root, heap, objects, 3})
		}
	}
}

// Rows count as objects, and only they are held against the length: an object of a class has the slots that it has.
func TestHowLongRowsAre(t *testing.T) {
	for n := range api.MaxLen + 3 {
		for long := range api.MaxLen + 1 {
			want := api.OK
			if n > long {
				want = api.ErrLen
			}
			ints, refs := strings.Repeat(" 7", n), strings.Repeat(" -", n)
			told(t, want,
				call{"R ints", "@0", "int[]" + ints, 1, long}, call{"R nodes", "@0", "Node[]" + refs, 1, long}, call{"R all", "- 1 @0 @1", "int[]" + ints + " | Object[]", 2, long},
				call{"R all", "- 1 @0 @1", "int[] | Object[]" + refs, 2, long}, call{"R all", "@0 1 - -", "Leaf - 1 - - @1 - | Node[]" + refs, 2, long},
			)
		}
	}
	told(t, api.OK, call{"T any", "@0", "Leaf - 1 - - - -", 1, 0}, call{"T any", "@0", "Wide - 1 - - - - 2 3 -", 1, 0}, call{"T any", "@0", "Node - 1", 1, 1})
	told(t, api.ErrLen, call{"R ints", "@0", "int[] 1", 0, 3}, call{"R nodes", "@0", "Node[]", 0, 0})
}

// What is no row and no object of a class is not too long, but of no type.
func TestObjectsOfNoTypeAreNotTooLong(t *testing.T) {
	p := read(t, asked)
	for _, kind := range []int{0, api.Void, api.Int, api.Null, api.Nothing, 8, -1, math.MinInt, math.MaxInt} {
		for _, name := range []string{"", "Node", "X"} {
			in := api.Input{Args: valuesOf("@0"), Heap: []api.Obj{{Type: api.Type{Kind: kind, Name: name}, Slots: valuesOf("- 1 2 3 4 5 6")}}}
			for _, method := range []string{"any", "node", "one"} {
				if e := Check(p, "T", method, in, 1, 0); e != api.ErrType {
					t.Error(kind, name, method, e)
				}
			}
		}
	}
}

func TestArgumentsOfTheirTypes(t *testing.T) {
	typed(t, api.OK,
		[3]string{"T none"}, [3]string{"T one", "0"}, [3]string{"T one", "2147483647"}, [3]string{"T one", "-2147483648"},
		[3]string{"T any", "-"}, [3]string{"T node", "-"}, [3]string{"T has", "-"}, [3]string{"S error", "-"}, [3]string{"R ints", "-"}, [3]string{"R nodes", "-"}, [3]string{"R objects", "-"}, [3]string{"R all", "- 1 - -"},
		[3]string{"T any", "@0", "Node - 1"}, [3]string{"T any", "@0", "T"}, [3]string{"T any", "@0", "Oops"}, [3]string{"T node", "@0", "Node - 1"}, [3]string{"T node", "@0", "Leaf - 1 - - - -"}, [3]string{"T node", "@0", "Wide - 1 - - - - 2 3 -"},
		[3]string{"T has", "@0", "T"}, [3]string{"T has", "@0", "Leaf - 1 - - - -"}, [3]string{"T has", "@0", "Wide - 1 - - - - 2 3 -"}, [3]string{"S error", "@0", "Oops"},
		[3]string{"R ints", "@0", "int[]"}, [3]string{"R ints", "@0", "int[] 2147483647 -2147483648 0"}, [3]string{"R nodes", "@0", "Node[] - - -"}, [3]string{"R has", "@0", "I[] -"}, [3]string{"R objects", "@0", "Object[] - -"},
		[3]string{"R two", "@0 @0", "Node - 1"}, [3]string{"R two", "@1 @0", "Node - 1 | Leaf - 1 - - - -"}, [3]string{"R all", "@0 -7 @1 @2", "Node - 1 | int[] 1 2 | Object[] @0"},
	)
}

func TestArgumentsOfOtherTypes(t *testing.T) {
	typed(t, api.ErrType,
		[3]string{"T one", "2147483648"}, [3]string{"T one", "-2147483649"}, [3]string{"T one", "-"}, [3]string{"T one", "@0", "Node - 1"}, [3]string{"T one", "@0"}, [3]string{"T any", "0"}, [3]string{"T any", "-1"}, [3]string{"R ints", "-1"}, [3]string{"R nodes", "0"},
		// references that there are not
		[3]string{"T any", "@0"}, [3]string{"T any", "@-2"}, [3]string{"T node", "@1", "Node - 1"}, [3]string{"R ints", "@0"}, [3]string{"R two", "@0 @1", "Node - 1"}, [3]string{"R two", "@0 @-2", "Node - 1"},
		// one that is not under it, one above it, one beside it
		[3]string{"T node", "@0", "T"}, [3]string{"T has", "@0", "Node - 1"}, [3]string{"T has", "@0", "S"}, [3]string{"S error", "@0", "Node - 1"}, [3]string{"T node", "@0", "Oops"}, [3]string{"R two", "@0 @1", "Node - 1 | T"},
		// rows
		[3]string{"T any", "@0", "int[]"}, [3]string{"T any", "@0", "Node[]"}, [3]string{"T node", "@0", "Node[]"}, [3]string{"T has", "@0", "I[]"}, [3]string{"R ints", "@0", "Node[]"}, [3]string{"R nodes", "@0", "int[]"},
		[3]string{"R nodes", "@0", "Leaf[]"}, [3]string{"R nodes", "@0", "Object[]"}, [3]string{"R objects", "@0", "Node[]"}, [3]string{"R has", "@0", "Leaf[]"}, [3]string{"R nodes", "@0", "Node - 1"}, [3]string{"R ints", "@0", "Node - 1"},
	)
}

func TestObjectsOfAnInput(t *testing.T) {
	typed(t, api.OK,
		[3]string{"T any", "@0", "R"}, [3]string{"T any", "@0", "S"}, [3]string{"T node", "@0", "Node @0 5"}, [3]string{"T node", "@0", "Node @1 -5 | Node @0 2147483647"}, [3]string{"T node", "@0", "Node @1 1 | Leaf @0 1 @1 - - @1"},
		[3]string{"T node", "@0", "Leaf - 1 @0 - - @0"}, [3]string{"T node", "@0", "Leaf - 1 @1 @2 - - | Oops | int[] 1 2 3"}, [3]string{"T node", "@0", "Leaf - 1 - - @1 @2 | Node[] @0 - @0 | T"}, [3]string{"T node", "@0", "Wide @0 1 - - - @0 2 3 @1 | I[] @0 @2 - | T"},
		[3]string{"R nodes", "@0", "Node[] @1 @2 | Node - 1 | Leaf - 1 - - - -"}, [3]string{"R has", "@0", "I[] @1 @1 @2 | T | Leaf - 1 - - - -"}, [3]string{"R objects", "@0", "Object[] @1 @2 - | Oops | R"}, [3]string{"R all", "- 1 - @0", "Object[] @1 | Wide @1 1 @1 - - @1 2 3 @2 | I[]"},
	)
	typed(t, api.ErrType,
		// of a class that always stands, of an interface, of nobody
		[3]string{"T any", "@0", "Object"}, [3]string{"S error", "@0", "Error"}, [3]string{"S error", "@0", "NumError"}, [3]string{"T any", "@0", "NumError"}, [3]string{"T has", "@0", "I"}, [3]string{"T any", "@0", "X"}, [3]string{"T any", "@0", "void"}, [3]string{"T any", "@0", "int"},
		[3]string{"R objects", "@0", "Object[] @1 | Object"}, [3]string{"R objects", "@0", "Object[] @1 | SizeError"}, [3]string{"R has", "@0", "I[] @1 | I"}, [3]string{"R two", "@0 -", "Leaf - 1 @1 - - - | Object"},
		// too many slots, too few
		[3]string{"T node", "@0", "Node -"}, [3]string{"T node", "@0", "Node"}, [3]string{"T node", "@0", "Node - 1 -"}, [3]string{"T any", "@0", "T 1"}, [3]string{"T any", "@0", "Leaf - 1"}, [3]string{"T any", "@0", "Leaf - 1 - - -"}, [3]string{"T any", "@0", "Wide - 1 - - - - 2 3"}, [3]string{"S error", "@0", "Oops -"}, [3]string{"T any", "@0", "Node - 1 - -"},
		// slots of other types
		[3]string{"T node", "@0", "Node 0 1"}, [3]string{"T node", "@0", "Node - -"}, [3]string{"T node", "@0", "Node 1 -"}, [3]string{"T node", "@0", "Node - 2147483648"}, [3]string{"T node", "@0", "Node @1 1"}, [3]string{"T node", "@0", "Node @-2 1"}, [3]string{"T node", "@0", "Node - @0"},
		[3]string{"T node", "@0", "Node @1 1 | T"}, [3]string{"T node", "@0", "Leaf - 1 @1 - - - | int[]"}, [3]string{"T node", "@0", "Leaf - 1 @1 - - - | Node[]"}, [3]string{"T node", "@0", "Leaf - 1 - @1 - - | Node[]"}, [3]string{"T node", "@0", "Leaf - 1 - - @1 - | int[]"}, [3]string{"T node", "@0", "Leaf - 1 - - @1 - | Leaf[]"},
		[3]string{"T node", "@0", "Leaf - 1 - - - @1 | Node - 1"}, [3]string{"T node", "@0", "Leaf - 1 - @0 - -"}, [3]string{"T node", "@0", "Wide - 1 - - - - - 3 -"}, [3]string{"T node", "@0", "Wide - 1 - - - - 2 3 @1 | Node[]"},
		[3]string{"T node", "@0", "Node @1 1 | Node @2 1 | Node - -"},
		// elements of other types
		[3]string{"R ints", "@0", "int[] -"}, [3]string{"R ints", "@0", "int[] 1 2 @0"}, [3]string{"R ints", "@0", "int[] 2147483648"}, [3]string{"R ints", "@0", "int[] 1 -2147483649"}, [3]string{"R nodes", "@0", "Node[] 0"}, [3]string{"R nodes", "@0", "Node[] - - 1"},
		[3]string{"R nodes", "@0", "Node[] @1"}, [3]string{"R nodes", "@0", "Node[] - @-2"}, [3]string{"R nodes", "@0", "Node[] @0"}, [3]string{"R nodes", "@0", "Node[] @1 | T"}, [3]string{"R has", "@0", "I[] @1 | Node - 1"}, [3]string{"R objects", "@0", "Object[] @0"}, [3]string{"R objects", "@0", "Object[] @1 | int[]"}, [3]string{"R nodes", "@0", "Node[] @1 - | Node 1 1"},
	)
}

// Rows of all that All has are rows of an input, rows of nobody are not. No method needs to ask for them: nobody reaches
// these, which is told only where their types are right.
func TestRowsOfAnInput(t *testing.T) {
	for _, name := range strings.Fields(standingNames + " T R S I Node Leaf Oops Wide") {
		typed(t, api.ErrPlace, [3]string{"T none", "", name + "[]"}, [3]string{"T none", "", name + "[] - - -"})
	}
	for _, name := range []string{"X", "", "t", "Nod", "Nodes", "node", "s", "void", "null", "Node[]"} {
		typed(t, api.ErrType, [3]string{"T none", "", name + "[]"}, [3]string{"T none", "", name + "[] - - -"})
	}
	p := read(t, asked)
	for _, name := range []string{"Node", "Object", "int", "X"} {
		named := api.Input{Args: valuesOf("@0"), Heap: []api.Obj{{Type: api.Type{Kind: api.IntRow, Name: name}, Slots: valuesOf("1 2")}}}
		if e := Check(p, "R", "ints", named, 1, 3); e != api.ErrType {
			t.Error(name, e)
		}
	}
}

func TestObjectsThatNobodyReaches(t *testing.T) {
	typed(t, api.ErrPlace,
		[3]string{"T none", "", "T"}, [3]string{"T none", "", "int[]"}, [3]string{"T any", "-", "Node @0 1"}, [3]string{"T one", "0", "Node @0 1"}, [3]string{"T node", "@0", "Node - 1 | Node @0 1"}, [3]string{"T node", "@1", "Node - 1 | Node - 1"},
		[3]string{"T node", "@0", "Node @1 2 | Node @0 2 | Node @2 2"}, [3]string{"T node", "@0", "Node - 1 | Node @2 1 | Node @1 1"}, [3]string{"R ints", "@0", "int[] 1 1 1 | T"}, [3]string{"R two", "@0 @2", "Node @2 1 | Node @0 1 | Node - 1"}, [3]string{"R all", "- 0 - @1", "int[] 0 | Object[] @2 | T"},
	)
	typed(t, api.OK,
		[3]string{"T node", "@1", "Node - 1 | Node @0 1"}, [3]string{"T node", "@2", "Node @1 1 | Node - 1 | Node @0 1"}, [3]string{"R two", "@0 @1", "Node - 1 | Node - 1"}, [3]string{"R two", "@2 @1", "Node - 1 | Node @0 1 | Node - 1"}, [3]string{"R nodes", "@2", "Node - 1 | Node @0 1 | Node[] - @1"},
	)
}

// An input that is wrong in several ways is told by the first: of each set of faults, each alone and all together.
func TestOrderOfErrors(t *testing.T) {
	right := call{"R all", "@0 1 @1 -", "Node @0 1 | int[] 1 2", 3, 3}
	faults := []struct {
		e    api.Errno
		make func(*call)
	}{
		{api.ErrNone, func(c *call) { c.method = "R none" }},
		{api.ErrNone, func(c *call) { c.method = strings.Replace(c.method, "R ", "I ", 1) }},
		{api.ErrArg, func(c *call) { c.objects += 7 }},
		{api.ErrArg, func(c *call) { c.long -= 9 }},
		{api.ErrLen, func(c *call) { c.args += " -" }},
		{api.ErrLen, func(c *call) { c.heap += " | Node @0 1 | Node @0 1" }},
		{api.ErrLen, func(c *call) { c.heap = strings.Replace(c.heap, " 2", " 2 3 4", 1) }},
		{api.ErrType, func(c *call) { c.args = strings.Replace(c.args, " 1 ", " - ", 1) }},
		{api.ErrType, func(c *call) { c.heap = strings.Replace(c.heap, "Node @0 1 ", "Node 0 1 ", 1) }},
		{api.ErrType, func(c *call) { c.heap = strings.Replace(c.heap, "int[] 1", "int[] -", 1) }},
		{api.ErrPlace, func(c *call) { c.heap += " | T" }},
		{api.ErrPlace, func(c *call) { c.args = strings.Replace(c.args, "@1 -", "- -", 1) }},
	}
	told(t, api.OK, right)
	for bits := range 1 << len(faults) {
		c, want := right, api.OK
		for k := len(faults) - 1; k >= 0; k-- {
			if bits>>k&1 == 1 {
				faults[k].make(&c)
				want = faults[k].e
			}
		}
		if bits&(bits-1) == 0 || bits%61 == 0 || bits > 4000 {
			told(t, want, c)
		}
	}
	for i, first := range faults {
		for _, next := range faults[i+1:] {
			c := right
			next.make(&c)
			first.make(&c)
			told(t, first.e, c)
		}
	}
}

// A class with as many slots as there may be, ten classes deep.
func TestDeepClasses(t *testing.T) {
	var b strings.Builder
	for k := range api.MaxClasses {
		n := strconv.Itoa(k)
		b.WriteString("class C" + n)
		if k > 0 {
			b.WriteString(" extends C" + strconv.Itoa(k-1))
		}
		b.WriteString(" { ")
		for f := range api.MaxFields {
			b.WriteString("field f" + n + strconv.Itoa(f) + " : C" + n + " ; ")
		}
		b.WriteString("function t ( C" + n + " ) void locals 1 { leave ; } } ")
	}
	text := b.String()
	for k := range api.MaxClasses {
		text = strings.Replace(text, "function t ( C"+strconv.Itoa(k), "function t"+strconv.Itoa(k)+" ( C"+strconv.Itoa(k), 1)
	}
	p := read(t, text)
	slots := slices.Repeat([]api.Val{null}, api.MaxClasses*api.MaxFields)
	slots[59], slots[0] = at(0), at(0)
	in := api.Input{Args: []api.Val{at(0)}, Heap: []api.Obj{{Type: typeOf("C9"), Slots: slots}}}
	for k := range api.MaxClasses {
		n := strconv.Itoa(k)
		if e := Check(p, "C"+n, "t"+n, in, 1, 0); e != api.OK {
			t.Error(n, e)
		}
		in.Heap[0].Slots = slots[:59]
		if e := Check(p, "C"+n, "t"+n, in, 1, 0); e != api.ErrType {
			t.Error(n, e)
		}
		in.Heap[0].Slots = slots
	}
}
