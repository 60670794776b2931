package hier

import (
	"math/rand/v2"
	"slices"
	"strconv"
	"strings"
	"testing"

	"delver/api"
)

// family is a program with classes and interfaces of each kind, none of them ahead of what it comes of but by chance.
const family = `
class Low extends Mid implements Small , Other { field x : int ; method f ( int ) Low locals 2 { load 1 ; ret ; catch Oops 0 2 1 ; } }
interface Small extends Left , Right { method f ( int ) Low ; }
class Mid extends High { static s : Low [ ] ; }
interface Left extends Top { }
interface Right extends Top { }
class High implements Left { }
interface Top { }
interface Other { }
class Oops extends NumError implements Other { }
class Lone extends Object { }
`

func TestExampleOfTheChapter(t *testing.T) {
	for _, text := range []string{"", "class A { }", family} {
		if p := read(t, text); !Under(p, "NullError", "Error") || Under(p, "Error", "NullError") {
			t.Error(text)
		}
	}
}

func TestAllOfNothing(t *testing.T) {
	for _, p := range []api.Program{{}, {Classes: []api.Class{}}} {
		all := All(p)
		want := []api.Class{{Name: "Object"}, {Name: "Error", Super: "Object"}}
		for _, name := range []string{"NullError", "RangeError", "CastError", "NumError", "SizeError", "DepthError"} {
			want = append(want, api.Class{Name: name, Super: "Error"})
		}
		if !slices.EqualFunc(all, want, sameClass) {
			t.Errorf("%+v", all)
		}
		checkTaken(t, "nothing", p)
		for _, c := range all {
			if l := Kinds(p, c.Name); len(l) != 0 {
				t.Error(c.Name, l)
			}
		}
	}
}

// All says what there is, right or wrong.
func TestAllOfAnyProgram(t *testing.T) {
	p := read(t, family)
	checkAll(t, "family", p)
	for _, text := range []string{"class A { } class A { }", "class Object { field x : int ; }", "class A extends X implements Y { }", "class A extends A { }"} {
		checkAll(t, text, read(t, text))
	}
	checkAll(t, "no form", api.Program{Classes: []api.Class{{}, {Name: "int", Iface: true, Super: "9", Ifaces: []string{"", "{"}}, {Methods: []api.Method{{Abstract: true, Locals: -1, Code: []api.Instr{{Op: -1}}}}}}})
	checkAll(t, "many", api.Program{Classes: slices.Repeat(p.Classes, 100)})
}

// What stands in a class is answered as it is: no Super is put where none stands.
func TestFindAnswersTheClassAsItStands(t *testing.T) {
	p := read(t, family)
	checkTaken(t, "family", p)
	for _, c := range p.Classes {
		if got, ok := Find(p, c.Name); !ok || !sameClass(got, c) {
			t.Errorf("%+v, not %+v", got, c)
		}
	}
	if c, ok := Find(p, "High"); !ok || c.Super != "" {
		t.Error(c, ok)
	}
	if c, ok := Find(p, "SizeError"); !ok || !sameClass(c, api.Class{Name: "SizeError", Super: "Error"}) {
		t.Error(c, ok)
	}
	if c, ok := Find(p, "Object"); !ok || !sameClass(c, api.Class{Name: "Object"}) {
		t.Error(c, ok)
	}
}

func TestSupers(t *testing.T) {
	p := read(t, family)
	for name, want := range map[string]string{
		"Low": "Mid", "Mid": "High", "High": "Object", "Oops": "NumError", "Lone": "Object",
		"Small": "", "Left": "", "Right": "", "Top": "", "Other": "",
		"Object": "", "Error": "Object", "NullError": "Error", "RangeError": "Error", "CastError": "Error", "NumError": "Error", "SizeError": "Error", "DepthError": "Error",
	} {
		if s, ok := Super(p, name); s != want || ok != (want != "") {
			t.Errorf("%s: %q %v", name, s, ok)
		}
	}
}

// familyAbove holds what is above each.
func familyAbove() map[string]string {
	return map[string]string{
		"Low": "Low Mid High Small Left Right Top Other Object", "Mid": "Mid High Left Top Object", "High": "High Left Top Object",
		"Small": "Small Left Right Top Object", "Left": "Left Top Object", "Right": "Right Top Object", "Top": "Top Object", "Other": "Other Object",
		"Oops": "Oops NumError Error Other Object", "Lone": "Lone Object",
		"Object": "Object", "Error": "Error Object", "NullError": "NullError Error Object", "RangeError": "RangeError Error Object", "CastError": "CastError Error Object",
		"NumError": "NumError Error Object", "SizeError": "SizeError Error Object", "DepthError": "DepthError Error Object",
	}
}

func TestUnder(t *testing.T) {
	p, above := read(t, family), familyAbove()
	for a, l := range above {
		for b := range above {
			if want := slices.Contains(strings.Fields(l), b); Under(p, a, b) != want {
				t.Error(a, b, !want)
			}
		}
	}
}

func TestKinds(t *testing.T) {
	p := read(t, family)
	for name, want := range map[string]string{
		"Object": "Low Mid High Oops Lone", "Error": "Oops", "NumError": "Oops", "NullError": "", "SizeError": "",
		"Low": "Low", "Mid": "Low Mid", "High": "Low Mid High", "Oops": "Oops", "Lone": "Lone",
		"Small": "Low", "Left": "Low Mid High", "Right": "Low", "Top": "Low Mid High", "Other": "Low Oops",
	} {
		if l := Kinds(p, name); strings.Join(l, " ") != want {
			t.Errorf("%s: %q", name, l)
		}
	}
}

func TestNamesOfNobody(t *testing.T) {
	p := read(t, family)
	names := append(otherNames(), "low", "Lo", "Lows", "x", "f", "s")
	for _, name := range names {
		if c, ok := Find(p, name); ok || !sameClass(c, api.Class{}) {
			t.Errorf("Find %q: %+v", name, c)
		}
		if s, ok := Super(p, name); ok || s != "" {
			t.Errorf("Super %q: %q", name, s)
		}
		if l := Kinds(p, name); len(l) != 0 {
			t.Errorf("Kinds %q: %q", name, l)
		}
		for _, other := range append(plainOf(p).names, name, "", "X") {
			if Under(p, name, other) || Under(p, other, name) {
				t.Errorf("Under: %q %q", name, other)
			}
		}
	}
}

// A class of which no class is known to come is still one of its own kinds; an interface is none.
func TestKindsHoldNoInterface(t *testing.T) {
	p := read(t, "interface I { } interface J extends I { }")
	for _, name := range []string{"I", "J", "Object"} {
		if l := Kinds(p, name); len(l) != 0 {
			t.Error(name, l)
		}
	}
	p = read(t, "interface I { } class B extends A { } interface J extends I { } class A implements J { }")
	for name, want := range map[string]string{"I": "B A", "J": "B A", "A": "B A", "B": "B", "Object": "B A"} {
		if l := Kinds(p, name); strings.Join(l, " ") != want {
			t.Error(name, l)
		}
	}
}

// rowOf answers a program of n classes, or interfaces, each of the next one; the last one of the one at a place, or of none.
func rowOf(n, last int, iface bool) api.Program {
	var p api.Program
	for i := range n {
		next := i + 1
		if i == n-1 {
			next = last
		}
		c := api.Class{Name: "C" + strconv.Itoa(i), Iface: iface}
		switch {
		case next < 0 || next >= n:
		case iface:
			c.Ifaces = []string{"C" + strconv.Itoa(next)}
		default:
			c.Super = "C" + strconv.Itoa(next)
		}
		p.Classes = append(p.Classes, c)
	}
	return p
}

func TestAsManyClassesAsMayBe(t *testing.T) {
	for _, iface := range []bool{false, true} {
		for _, n := range []int{1, 2, 9, api.MaxClasses} {
			p := rowOf(n, -1, iface)
			checkTaken(t, n, p)
			slices.Reverse(p.Classes)
			checkTaken(t, n, p)
		}
		for _, n := range []int{api.MaxClasses + 1, api.MaxClasses + 2, 100} {
			checkRefused(t, n, rowOf(n, -1, iface), api.ErrForm)
		}
	}
	p := rowOf(api.MaxClasses, -1, false)
	if !Under(p, "C0", "C9") || Under(p, "C9", "C0") || len(Kinds(p, "C9")) != api.MaxClasses || len(Kinds(p, "C0")) != 1 {
		t.Error("a row of classes")
	}
}

// Each of many interfaces comes of up to four ahead of it: the ways up are many more than the interfaces.
func TestManyWaysUp(t *testing.T) {
	var p api.Program
	for i := range api.MaxClasses {
		c := api.Class{Name: "C" + strconv.Itoa(i), Iface: i < api.MaxClasses-1}
		for k := max(0, i-4); k < i; k++ {
			c.Ifaces = append(c.Ifaces, "C"+strconv.Itoa(k))
		}
		p.Classes = append(p.Classes, c)
	}
	checkTaken(t, "ways", p)
	p.Classes[0].Ifaces = []string{"C8"}
	checkRefused(t, "ways in a ring", p, api.ErrRing)
}

func TestRandomSoundPrograms(t *testing.T) {
	m := maker{rand.New(rand.NewPCG(4, 1))}
	for range 400 {
		checkTaken(t, "sound", m.sound(api.MaxClasses))
	}
}

// P4.2, of every two and every three.
func TestUnderIsAnOrder(t *testing.T) {
	m := maker{rand.New(rand.NewPCG(4, 2))}
	l := []api.Program{{}, read(t, family), rowOf(api.MaxClasses, -1, false), rowOf(api.MaxClasses, -1, true)}
	for range 200 {
		l = append(l, m.sound(api.MaxClasses))
	}
	for range 400 {
		l = append(l, m.bent())
	}
	for _, p := range l {
		checkOrder(t, p)
	}
}

func checkOrder(t *testing.T, p api.Program) {
	t.Helper()
	var names []string
	for _, c := range All(p) {
		names = append(names, c.Name)
	}
	names = append(names, "X", "")
	under := map[[2]string]bool{}
	for _, a := range names {
		for _, b := range names {
			under[[2]string{a, b}] = Under(p, a, b)
		}
	}
	for _, a := range names {
		for _, b := range names {
			if a != b && under[[2]string{a, b}] && under[[2]string{b, a}] {
				t.Errorf("%q and %q are under each other: %+v", a, b, p)
			}
			for _, c := range names {
				if under[[2]string{a, b}] && under[[2]string{b, c}] && !under[[2]string{a, c}] {
					t.Errorf("%q under %q under %q: %+v", a, b, c, p)
				}
			}
		}
	}
}
