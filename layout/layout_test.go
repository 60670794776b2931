package layout

import (
	"math/rand/v2"
	"slices"
	"strconv"
	"strings"
	"testing"

	"delver/api"
	"delver/hier"
	"delver/show"
)

// family is a program with members of each kind, few of its classes behind what they come of. Each method has its own
// number of locals, by which it is told.
const family = `
class Low extends Mid implements Small { field e : Low [ ] ; static s : int ; method top ( ) void locals 1 { nop ; leave ; } method left ( int , Mid [ ] ) Top locals 3 { null ; ret ; catch Oops 0 2 1 ; } function count ( ) int locals 0 { } }
interface Small extends Left , Right { method left ( int , Mid [ ] ) Top ; method small ( ) int [ ] ; }
class Mid extends High { static s : Low [ ] ; field c : int ; static t : int [ ] ; field d : Top ; method small ( ) int [ ] locals 2 { null ; ret ; } function make ( int ) Mid locals 4 { const 7 ; } }
interface Left extends Top { method left ( int , Mid [ ] ) Top ; }
interface Right extends Top { method top ( ) void ; }
class High implements Left { field a : High ; static u : Top ; field b : int [ ] ; method top ( ) void locals 5 { } method left ( int , Mid [ ] ) Top locals 6 { } function make ( int ) Mid locals 7 { } method high ( ) High locals 8 { } }
interface Top { method top ( ) void ; }
interface Other { }
class Oops extends NumError implements Other { field s : Object ; static a : NullError ; method a ( ) void locals 1 { } }
class Lone { }
`

// standing holds the names of the classes that always stand.
const standing = "Object Error NullError RangeError CastError NumError SizeError DepthError"

// told answers slots as words.
func told(t *testing.T, l []api.Slot) string {
	t.Helper()
	var words []string
	for _, s := range l {
		text, e := show.Type(s.Type)
		if e != api.OK {
			t.Errorf("%+v: %d", s, e)
		}
		words = append(words, s.Owner+"."+s.Name+":"+text)
	}
	return strings.Join(words, " ")
}

func TestExampleOfTheChapter(t *testing.T) {
	for _, text := range []string{"", "class A { field x : int ; }", family} {
		if l, e := Slots(read(t, text), "Object"); len(l) != 0 || e != api.OK {
			t.Errorf("%q: %v %d", text, l, e)
		}
	}
}

func TestFamily(t *testing.T) { checkTaken(t, "family", read(t, family)) }

func TestProgramOfNothing(t *testing.T) {
	checkTaken(t, "nil", api.Program{})
	checkTaken(t, "empty", api.Program{Classes: []api.Class{}})
}

func TestSlots(t *testing.T) {
	p := read(t, family)
	for class, want := range map[string]string{
		"High": "High.a:High High.b:int[]",
		"Mid":  "High.a:High High.b:int[] Mid.c:int Mid.d:Top",
		"Low":  "High.a:High High.b:int[] Mid.c:int Mid.d:Top Low.e:Low[]",
		"Oops": "Oops.s:Object",
		"Lone": "",
	} {
		if l, e := Slots(p, class); told(t, l) != want || e != api.OK {
			t.Errorf("%s: %v %d", class, l, e)
		}
	}
	for _, class := range strings.Fields(standing) {
		if l, e := Slots(p, class); len(l) != 0 || e != api.OK {
			t.Errorf("%s: %v %d", class, l, e)
		}
	}
	for _, class := range append(otherNames(), "Top", "Small", "Left", "Right", "Other", "low", "Lo", "a", "make") {
		if l, e := Slots(p, class); len(l) != 0 || e != api.ErrNone {
			t.Errorf("%q: %v %d", class, l, e)
		}
	}
}

// Slots come by the row, Object first, whatever order the classes stand in.
func TestSlotsOfClassesInEachOrder(t *testing.T) {
	a, b, c := "class A { field z : int ; static k : int ; field a : A ; }", "class B extends A { field y : int [ ] ; }", "class C extends B { static a : C ; field x : C [ ] ; field b : B ; }"
	for _, l := range orders(a, b, c) {
		p := read(t, strings.Join(l, " "))
		for class, want := range map[string]string{"A": "A.z:int A.a:A", "B": "A.z:int A.a:A B.y:int[]", "C": "A.z:int A.a:A B.y:int[] C.x:C[] C.b:B"} {
			if s, e := Slots(p, class); told(t, s) != want || e != api.OK {
				t.Errorf("%v: %s: %v %d", l, class, s, e)
			}
		}
	}
}

// Classes of one super have slots of their own, however many of them there are ahead.
func TestSlotsOfSisters(t *testing.T) {
	for n := range api.MaxFields + 1 {
		var supers string
		for k := range n {
			supers += "field a" + strconv.Itoa(k) + " : int ; "
		}
		p := read(t, "class A { "+supers+"} class B extends A { field b : int ; } class C extends A { field c : int ; } class OfB extends B { } class OfC extends C { } class D extends B { field c : int ; } class E extends C { field b : int ; }")
		checkTaken(t, n, p)
		slices.Reverse(p.Classes)
		checkTaken(t, n, p)
	}
}

func TestStatics(t *testing.T) {
	for text, want := range map[string]string{
		"": "", "class A { }": "", "class A { field x : int ; }": "", "interface I { method f ( ) int ; }": "",
		"class A { static x : int ; }": "A.x:int",
		family:                         "Low.s:int Mid.s:Low[] Mid.t:int[] High.u:Top Oops.a:NullError",
		"class C extends B { static z : int ; static y : C ; } class A { field n : int ; static z : A ; } class B extends A { static y : int ; static z : int ; static x : B [ ] ; }": "C.z:int C.y:C A.z:A B.y:int B.z:int B.x:B[]",
	} {
		if l, e := Statics(read(t, text)); told(t, l) != want || e != api.OK {
			t.Errorf("%q: %v %d", text, l, e)
		}
	}
}

func TestMethods(t *testing.T) {
	p := read(t, family)
	for _, c := range []struct {
		class, name, owner string
		locals             int
	}{
		{"Low", "top", "Low", 1}, {"Low", "left", "Low", 3}, {"Low", "small", "Mid", 2}, {"Low", "high", "High", 8}, {"Low", "count", "Low", 0}, {"Low", "make", "Mid", 4},
		{"Mid", "top", "High", 5}, {"Mid", "left", "High", 6}, {"Mid", "small", "Mid", 2}, {"Mid", "make", "Mid", 4}, {"Mid", "high", "High", 8},
		{"High", "top", "High", 5}, {"High", "left", "High", 6}, {"High", "make", "High", 7}, {"High", "high", "High", 8}, {"Oops", "a", "Oops", 1},
	} {
		owner, m, ok := Method(p, c.class, c.name)
		if owner != c.owner || m.Name != c.name || m.Locals != c.locals || !ok {
			t.Errorf("%s.%s: %q %+v %v", c.class, c.name, owner, m, ok)
		}
	}
	for class, names := range map[string]string{
		"Mid": "count", "High": "small count", "Low": "a e s Top To topp x", "Oops": "top make s", "Lone": "top make a", "Object": "top make", "NumError": "a", "Error": "a",
		// interfaces have none of a class' methods
		"Top": "top", "Small": "left small top", "Left": "left top", "Right": "top", "Other": "top a",
		"": "top", "X": "top", "low": "top", "top": "top",
	} {
		for _, name := range append(strings.Fields(names), "") {
			if owner, m, ok := Method(p, class, name); ok || owner != "" || !sameMethod(m, api.Method{}) {
				t.Errorf("%q.%q: %q %+v", class, name, owner, m)
			}
		}
	}
}

// The method is answered whole.
func TestMethodsAsTheyStand(t *testing.T) {
	p := read(t, family)
	left := api.Method{
		Name: "left", Params: []api.Type{{Kind: api.Int}, {Kind: api.RefRow, Name: "Mid"}}, Ret: api.Type{Kind: api.Ref, Name: "Top"}, Locals: 3,
		Code: []api.Instr{{Op: api.OpNull}, {Op: api.OpRet}}, Catches: []api.Catch{{Name: "Oops", From: 0, To: 2, At: 1}},
	}
	if owner, m, ok := Method(p, "Low", "left"); owner != "Low" || !sameMethod(m, left) || !ok {
		t.Errorf("%q %+v %v", owner, m, ok)
	}
	if m, ok := Call(p, "Low", "left"); !sameMethod(m, left) || !ok {
		t.Errorf("%+v %v", m, ok)
	}
	made := api.Method{Name: "make", Static: true, Params: []api.Type{{Kind: api.Int}}, Ret: api.Type{Kind: api.Ref, Name: "Mid"}, Locals: 4, Code: []api.Instr{{Op: api.OpConst, N: 7}}}
	if owner, m, ok := Method(p, "Low", "make"); owner != "Mid" || !sameMethod(m, made) || !ok {
		t.Errorf("%q %+v %v", owner, m, ok)
	}
	asked := api.Method{Name: "left", Abstract: true, Params: left.Params, Ret: left.Ret}
	for _, class := range []string{"Left", "Small"} {
		if m, ok := Call(p, class, "left"); !sameMethod(m, asked) || !ok {
			t.Errorf("%s: %+v %v", class, m, ok)
		}
	}
}

func TestCalls(t *testing.T) {
	p := read(t, family)
	for _, c := range []struct {
		class, name string
		locals      int // of an interface's: -1
	}{
		{"Low", "top", 1}, {"Low", "left", 3}, {"Low", "small", 2}, {"Low", "high", 8}, {"Mid", "top", 5}, {"Mid", "left", 6}, {"High", "top", 5}, {"Oops", "a", 1},
		{"Top", "top", -1}, {"Right", "top", -1}, {"Left", "top", -1}, {"Left", "left", -1}, {"Small", "left", -1}, {"Small", "small", -1}, {"Small", "top", -1},
	} {
		m, ok := Call(p, c.class, c.name)
		if m.Name != c.name || m.Abstract != (c.locals < 0) || m.Locals != max(c.locals, 0) || !ok {
			t.Errorf("%s.%s: %+v %v", c.class, c.name, m, ok)
		}
	}
	for class, names := range map[string]string{
		// static ones, own and far up
		"Low": "count make a e s", "Mid": "make count", "High": "make small",
		// what is below, and beside
		"Top": "left small high", "Right": "left small", "Left": "small make", "Other": "a top", "Lone": "top", "Object": "top high", "Error": "a", "NumError": "a",
		"": "top", "X": "top", "small": "top", "top": "top",
	} {
		for _, name := range append(strings.Fields(names), "", "Top", "to") {
			if m, ok := Call(p, class, name); ok || !sameMethod(m, api.Method{}) {
				t.Errorf("%q.%q: %+v", class, name, m)
			}
		}
	}
}

// Interfaces of which no class is may ask for one name in several ways: the first that is met counts, an interface itself
// ahead of its Ifaces, each of these with all above it ahead of the next.
func TestCallsThroughInterfaces(t *testing.T) {
	ways := "interface N { method f ( ) int ; } interface V { method f ( ) void ; } interface E { } interface UpN extends N { } interface UpV extends E , V { }"
	for head, want := range map[string]int{
		"interface I extends N { }": api.Int, "interface I extends V { }": api.Void, "interface I extends N , V { }": api.Int, "interface I extends V , N { }": api.Void,
		"interface I extends N { method f ( ) I ; }": api.Ref, "interface I extends N , V { method f ( I ) I ; }": api.Ref, "interface I extends N { method g ( ) I ; }": api.Int,
		"interface I extends UpN , V { }": api.Int, "interface I extends UpV , N { }": api.Void, "interface I extends E , UpN , V { }": api.Int, "interface I extends V , UpN { }": api.Void,
		"interface I extends E , E , UpV , UpN { }": api.Void, "interface I extends UpN , UpV { }": api.Int, "interface I extends J , V { } interface J extends UpN { }": api.Int,
		"interface I extends J { } interface J extends UpV , N { }": api.Void, "interface I extends J , UpN { } interface J extends UpN , V { method f ( ) J [ ] ; }": api.RefRow,
	} {
		for _, text := range []string{ways + head, head + ways} {
			p := read(t, text)
			m, ok := Call(p, "I", "f")
			if m.Ret.Kind != want || !m.Abstract || !ok {
				t.Errorf("%s: %+v %v", text, m, ok)
			}
			checkTaken(t, text, p)
		}
	}
	p := read(t, ways+"interface I extends E , UpN , V { }")
	for _, c := range [][2]string{{"E", "f"}, {"I", "g"}, {"I", ""}, {"E", "E"}} {
		if m, ok := Call(p, c[0], c[1]); ok || !sameMethod(m, api.Method{}) {
			t.Errorf("%v: %+v", c, m)
		}
	}
}

// A static method is a method by that name: no call goes beyond it.
func TestCallsOfStaticMethods(t *testing.T) {
	p := read(t, "interface I { method g ( ) int ; } class A { function f ( ) int locals 1 { } } class B extends A implements I { method g ( ) int locals 2 { } } class C extends B { function f ( ) int locals 3 { } }")
	for _, class := range []string{"A", "B", "C"} {
		if m, ok := Call(p, class, "f"); ok || !sameMethod(m, api.Method{}) {
			t.Errorf("%s: %+v", class, m)
		}
		if _, m, ok := Method(p, class, "f"); !ok || !m.Static {
			t.Errorf("%s: %+v", class, m)
		}
	}
	if m, ok := Call(p, "C", "g"); !ok || m.Locals != 2 {
		t.Errorf("%+v %v", m, ok)
	}
	checkTaken(t, "static", p)
}

func TestAsMuchAsMayBe(t *testing.T) {
	var p api.Program
	for k := range api.MaxClasses {
		c := api.Class{Name: "C" + strconv.Itoa(k)}
		if k < api.MaxClasses-1 {
			c.Super = "C" + strconv.Itoa(k+1)
		}
		for i := range api.MaxFields {
			c.Fields = append(c.Fields, api.Field{Name: "x" + strconv.Itoa(k*10+i), Type: api.Type{Kind: api.Int}})
		}
		for i := range api.MaxMethods {
			c.Methods = append(c.Methods, api.Method{Name: "f" + strconv.Itoa(k*10+i), Ret: api.Type{Kind: api.Void}, Params: slices.Repeat([]api.Type{{Kind: api.IntRow}}, api.MaxParams)})
		}
		p.Classes = append(p.Classes, c)
	}
	for range 2 {
		if l, e := Slots(p, "C0"); len(l) != api.MaxClasses*api.MaxFields || l[0].Owner != "C9" || l[59].Owner != "C0" || e != api.OK {
			t.Error(l, e)
		}
		if owner, _, ok := Method(p, "C0", "f90"); owner != "C9" || !ok {
			t.Error(owner)
		}
		slices.Reverse(p.Classes)
	}
	checkTaken(t, "much", p)
	p.Classes[0].Fields = append(p.Classes[0].Fields, p.Classes[0].Fields[0])
	checkRefused(t, "too much", p, api.ErrForm)
}

func TestRandomSoundPrograms(t *testing.T) {
	m := maker{rand.New(rand.NewPCG(5, 1))}
	for range 100 {
		checkTaken(t, "sound", m.sound(api.MaxClasses))
	}
}

// P5.3, of every class of programs of every kind.
func TestSlotsBeginWithTheSupers(t *testing.T) {
	m := maker{rand.New(rand.NewPCG(5, 2))}
	l := []api.Program{{}, read(t, family)}
	for range 150 {
		l = append(l, m.sound(api.MaxClasses), m.bent())
	}
	longer := 0
	for _, p := range l {
		for _, c := range hier.All(p) {
			super, has := hier.Super(p, c.Name)
			if !has {
				continue
			}
			slots, e := Slots(p, c.Name)
			supers, f := Slots(p, super)
			if e != f || len(slots) < len(supers) || !slices.Equal(slots[:len(supers)], supers) {
				t.Errorf("%s: %v %d, its super's: %v %d", c.Name, slots, e, supers, f)
			}
			if len(supers) > 0 && len(slots) > len(supers) {
				longer++
			}
		}
	}
	if longer < 50 {
		t.Error(longer)
	}
}
