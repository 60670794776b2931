package layout

import (
	"math/rand/v2"
	"slices"
	"strconv"
	"strings"
	"testing"

	"delver/api"
)

// refused holds that each text is refused so.
func refused(t *testing.T, want api.Errno, texts ...string) {
	t.Helper()
	for _, text := range texts {
		checkRefused(t, text, read(t, text), want)
	}
}

// taken holds that each text is taken.
func taken(t *testing.T, texts ...string) {
	t.Helper()
	for _, text := range texts {
		checkTaken(t, text, read(t, text))
	}
}

func TestWhatHierRefuses(t *testing.T) {
	refused(t, api.ErrTwice, "class A { } class A { }", "class Object { }", "class A { } interface A { }")
	refused(t, api.ErrNone, "class A extends X { }", "class A implements X { }", "class B { } class A implements B { }", "interface I { } class A extends I { }")
	refused(t, api.ErrRing, "class A extends A { }", "interface I extends J { } interface J extends I { }")
	for what, c := range map[string]api.Class{
		"no name":             {},
		"a super's super":     {Name: "I", Iface: true, Super: "Object"},
		"a type that is none": {Name: "A", Fields: []api.Field{{Name: "x"}}},
		"a type of a check":   {Name: "A", Fields: []api.Field{{Name: "x", Type: api.Type{Kind: api.Null}}}},
		"an int with a name":  {Name: "A", Fields: []api.Field{{Name: "x", Type: api.Type{Kind: api.Int, Name: "A"}}}},
		"a row of no name":    {Name: "A", Methods: []api.Method{{Name: "f", Ret: api.Type{Kind: api.RefRow}}}},
		"an abstract body":    {Name: "I", Iface: true, Methods: []api.Method{{Name: "f", Ret: api.Type{Kind: api.Int}, Abstract: true, Locals: 1}}},
	} {
		checkRefused(t, what, api.Program{Classes: []api.Class{c}}, api.ErrForm)
		checkRefused(t, what, api.Program{Classes: []api.Class{{Name: "B"}, c}}, api.ErrForm)
	}
	checkRefused(t, "too many", api.Program{Classes: slices.Repeat([]api.Class{{Name: "A"}}, api.MaxClasses+1)}, api.ErrForm)
}

func TestInterfacesWithMoreThanSignatures(t *testing.T) {
	refused(t, api.ErrForm,
		"interface I { field x : int ; }", "interface I { static x : int ; }", "class A { } interface I { method f ( ) int ; field x : int ; }",
		"interface I { method f ( ) int locals 1 { const 1 ; ret ; } }", "interface I { method f ( ) int locals 0 { } }",
		"interface I { method f ( ) int ; method g ( ) int locals 1 { } }", "interface I { function f ( ) int ; }",
		"interface I { function f ( ) int locals 1 { } }", "interface I { method f ( ) int ; function g ( ) int ; method h ( ) int ; }",
	)
	taken(t, "interface I { }", "interface I { method f ( ) int ; }", "interface I { method f ( I , int ) void ; method g ( ) I ; } interface J extends I { }")
}

func TestClassesWithAnAbstractMethod(t *testing.T) {
	refused(t, api.ErrForm,
		"class A { method f ( ) int ; }", "class A { function f ( ) int ; }", "class A { method f ( ) int locals 1 { } method g ( ) int ; }",
		"interface I { method f ( ) int ; } class A implements I { method f ( ) int ; }", "class A { method f ( ) int locals 1 { } } class B extends A { method f ( ) int ; }",
	)
	taken(t, "class A { method f ( ) int locals 0 { } }", "class A { function f ( ) int locals 0 { } }")
}

func TestVoidThatIsNoAnswer(t *testing.T) {
	refused(t, api.ErrForm,
		"class A { field x : void ; }", "class A { static x : void ; }", "class A { field x : int ; field y : A ; field z : void ; }",
		"class A { method f ( void ) int locals 2 { } }", "class A { function f ( void ) void locals 2 { } }",
		"class A { method f ( int , int , int , void ) int locals 2 { } }", "class A { method f ( int ) int locals 2 { } method g ( int , void , int ) int locals 2 { } }",
		"interface I { method f ( void ) int ; }", "interface I { method f ( ) int ; method g ( int , void ) int ; }",
	)
	taken(t, "class A { method f ( ) void locals 1 { } function g ( int ) void locals 1 { } }", "interface I { method f ( ) void ; }")
}

func TestMembersOfOneName(t *testing.T) {
	refused(t, api.ErrTwice,
		"class A { field x : int ; field x : int ; }", "class A { static x : int ; static x : int ; }", "class A { field x : int ; static x : A ; }", "class A { static x : A ; field x : int ; }",
		"class A { field x : int ; field y : int ; field z : int ; field y : int ; }", "class A { field x : int ; field y : int ; field x : int ; }",
		"class A { method f ( ) int locals 1 { } method f ( ) int locals 1 { } }", "class A { method f ( ) int locals 1 { } function f ( ) int locals 1 { } }",
		"class A { method f ( int ) int locals 2 { } method f ( A ) int locals 2 { } }", "class A { function f ( ) int locals 1 { } method g ( ) int locals 1 { } function f ( int ) void locals 1 { } }",
		"interface I { method f ( ) int ; method f ( ) int ; }", "interface I { method f ( ) int ; method g ( ) int ; method f ( int ) int ; }",
	)
	taken(t, "class A { field x : int ; method x ( ) int locals 1 { } static A : A ; function A ( ) A locals 1 { } }", "class A { field x : int ; static X : int ; field xx : int ; }",
		"class A { field x : int ; method f ( ) int locals 1 { } } class B { static x : A ; function f ( int ) void locals 1 { } }")
}

func TestTypesOfNobody(t *testing.T) {
	refused(t, api.ErrNone,
		"class A { field x : X ; }", "class A { static x : X ; }", "class A { field x : X [ ] ; }", "class A { static x : X [ ] ; }", "class A { field x : int ; field y : A ; field z : a ; }",
		"class A { method f ( X ) int locals 2 { } }", "class A { function f ( X [ ] ) int locals 2 { } }", "class A { method f ( A , int , int [ ] , X ) int locals 5 { } }",
		"class A { method f ( ) X locals 1 { } }", "class A { function f ( ) X [ ] locals 1 { } }", "class A { method f ( ) void locals 1 { } method g ( ) X locals 1 { } }",
		"interface I { method f ( X ) int ; }", "interface I { method f ( ) X ; }", "interface I { method f ( ) int ; method g ( int , X [ ] ) int ; }", "class A { field x : Objects ; }", "class A { field x : f ; method f ( ) int locals 1 { } }",
	)
	taken(t, "class A { field a : A ; static b : B [ ] ; method f ( I , B , Object [ ] ) I [ ] locals 4 { } } interface I { method g ( SizeError ) B ; } class B { field n : NullError ; }",
		// what a body names is layer 7's
		"class A { method f ( ) int locals 1 { new X ; get X y ; call X y ; refs X ; const 1 ; ret ; catch X 0 1 1 ; } }")
}

func TestSlotsOfTheSupersName(t *testing.T) {
	refused(t, api.ErrTwice,
		"class A { field x : int ; } class B extends A { field x : int ; }", "class B extends A { field x : int ; } class A { field x : int ; }", "class A { field x : int ; } class B extends A { field x : A ; }",
		"class A { field x : int ; } class B extends A { } class C extends B { field x : int ; }", "class A { field x : int ; } class B extends A { field y : int ; } class C extends B { field z : int ; field x : int ; }",
		"class A extends Error { field w : int ; field x : int ; } class B extends A { static s : int ; field x : int ; }", "class D extends C { field x : int ; } class C extends B { } class B extends A { } class A { field x : int ; }",
		"class A { field x : int ; } class B extends A { static x : int ; } class C extends B { field x : int ; }",
	)
	taken(t, "class A { field x : int ; } class B extends A { static x : int ; }", "class A { static x : int ; } class B extends A { field x : int ; }", "class A { static x : int ; } class B extends A { static x : A ; }",
		"class A { field x : int ; } class B { field x : int ; }", "class A { } class B extends A { field x : int ; } class C extends A { field x : int ; }", "class A { method x ( ) int locals 1 { } } class B extends A { field x : int ; }")
}

func TestMethodsUnlikeTheSupers(t *testing.T) {
	refused(t, api.ErrType,
		"class A { method f ( ) int locals 1 { } } class B extends A { function f ( ) int locals 1 { } }", "class A { function f ( ) int locals 1 { } } class B extends A { method f ( ) int locals 1 { } }",
		"class A { method f ( ) int locals 1 { } } class B extends A { method f ( int ) int locals 2 { } }", "class A { method f ( int ) int locals 2 { } } class B extends A { method f ( ) int locals 2 { } }",
		"class A { method f ( int , A ) int locals 3 { } } class B extends A { method f ( A , int ) int locals 3 { } }", "class A { method f ( A ) int locals 2 { } } class B extends A { method f ( B ) int locals 2 { } }",
		"class A { method f ( A ) int locals 2 { } } class B extends A { method f ( A [ ] ) int locals 2 { } }", "class A { method f ( ) int locals 1 { } } class B extends A { method f ( ) void locals 1 { } }",
		"class A { method f ( ) A locals 1 { } } class B extends A { method f ( ) B locals 1 { } }", "class A { function f ( ) int locals 1 { } } class B extends A { function f ( ) A locals 1 { } }",
		"class B extends A { method f ( ) void locals 1 { } } class A { method f ( ) int locals 1 { } }", "class A { method f ( ) int locals 1 { } } class B extends A { } class C extends B { method f ( ) void locals 1 { } }",
		"class A { method f ( ) int locals 1 { } } class B extends A { method f ( ) int locals 1 { } method g ( ) int locals 1 { } } class C extends B { method h ( ) int locals 1 { } method g ( ) void locals 1 { } }",
	)
	taken(t, "class A { method f ( int , A [ ] ) A locals 3 { nop ; } } class B extends A { method f ( int , A [ ] ) A locals 5 { catch Error 0 1 2 ; } }", "class A { function f ( ) int locals 0 { } } class B extends A { function f ( ) int locals 3 { nop ; } }",
		"class A { method f ( ) int locals 1 { } } class B { function f ( A ) void locals 1 { } }", "class A { } class B extends A { method f ( ) int locals 1 { } } class C extends A { function f ( ) A locals 1 { } }",
		"class A { field f : int ; } class B extends A { method f ( ) int locals 1 { } }")
}

// A class is held against what is found first up its row, not against all that stands there: C is as B, and it is B that
// is unlike A, of which the fault of D is ahead.
func TestMethodsAgainstTheFirstOfTheRow(t *testing.T) {
	a, b, c := "class A { method f ( ) int locals 1 { } field x : int ; }", "class B extends A { method f ( ) void locals 1 { } }", "class C extends B { method f ( ) void locals 1 { } }"
	d := "class D extends A { field x : int ; }"
	refused(t, api.ErrTwice, c+d+b+a, a+c+d+b)
	refused(t, api.ErrType, c+b+d+a, b+c+d+a)
}

func TestMethodsThatAnInterfaceAsksFor(t *testing.T) {
	i := "interface I { method f ( ) int ; }"
	refused(t, api.ErrNone,
		i+"class A implements I { }", "class A implements I { }"+i, i+"interface J extends I { } class A implements J { }", i+"interface J extends I { } interface K extends J { } class A implements K { }",
		i+"class A implements I { field f : int ; }", i+"class A implements I { method g ( ) int locals 1 { } }", i+"class A implements I { } class B extends A { method f ( ) int locals 1 { } }",
		i+"class A implements I { method f ( ) int locals 1 { } } class B implements I { }", "interface I { method f ( ) int ; method g ( ) int ; } class A implements I { method f ( ) int locals 1 { } }",
		"interface J { } "+i+"class A implements J , I { }",
	)
	refused(t, api.ErrType,
		i+"class A implements I { function f ( ) int locals 1 { } }", i+"class A implements I { method f ( ) void locals 1 { } }", i+"class A implements I { method f ( int ) int locals 2 { } }",
		i+"interface J extends I { } class A implements J { method f ( ) A locals 1 { } }", i+"class A { method f ( ) void locals 1 { } } class B extends A implements I { }", i+"class A { function f ( ) int locals 1 { } } class B extends A implements I { }",
		i+"class A { method f ( ) void locals 1 { } } class B extends A { } class C extends B implements I { }", i+"interface J { method f ( ) void ; } class A implements I , J { method f ( ) int locals 1 { } }",
		i+"interface J extends I { method f ( ) void ; } class A implements J { method f ( ) void locals 1 { } }", "interface I { method f ( I , int ) int ; } class A implements I { method f ( A , int ) int locals 3 { } }",
		"interface I { method f ( ) int ; method g ( ) I ; } class A implements I { method f ( ) int locals 1 { } method g ( ) A locals 1 { } }",
	)
	taken(t, i+"class A implements I { method f ( ) int locals 1 { } }", i+"class A { method f ( ) int locals 1 { } } class B extends A implements I { }", i+"class A { method f ( ) int locals 1 { } } class B extends A { } class C extends B implements I { }",
		i+"class A implements I { method f ( ) int locals 1 { } } class B extends A { } class C extends B { method f ( ) int locals 2 { } }",
		// nobody is under both of them, or under one of them at all
		i+"interface J extends I { method f ( ) void ; } interface K extends I , J { }", i+"interface J { method f ( ) void ; } class A implements I { method f ( ) int locals 1 { } } class B implements J { method f ( ) void locals 1 { } }")
}

// An interface that only the super has is asked of the class too. The super has the same fault then: here C's stands
// between them.
func TestInterfacesOfTheSuper(t *testing.T) {
	i := "interface I { method f ( ) int ; } interface J { method g ( ) int ; }"
	refused(t, api.ErrNone, i+"class B extends A { method g ( ) int locals 1 { } } class C implements J { method g ( ) void locals 1 { } } class A implements I { }")
	refused(t, api.ErrType, i+"class C implements J { method g ( ) void locals 1 { } } class B extends A { method g ( ) int locals 1 { } } class A implements I { }",
		i+"class B extends A { } class C implements J { } class A implements I { method f ( ) void locals 1 { } }")
}

// What the interfaces ask for is told in All's order, not in the order in which they are named or come of one another,
// and of each of them in its methods' order.
func TestOrderOfWhatInterfacesAskFor(t *testing.T) {
	f, g := "interface I { method f ( ) int ; }", "interface J { method g ( ) int ; }"
	unlike := " { method f ( ) void locals 1 { } }"
	refused(t, api.ErrType, f+g+"class A implements I , J"+unlike, f+g+"class A implements J , I"+unlike, "class A implements J , I"+unlike+f+g, "interface I extends J { method f ( ) int ; }"+g+"class A implements I"+unlike,
		f+g+"interface K extends J { } class A implements K , I"+unlike, f+"class B implements J { method g ( ) int locals 1 { } }"+g+"class A extends B implements I"+unlike)
	refused(t, api.ErrNone, g+f+"class A implements I , J"+unlike, g+f+"class A implements J , I"+unlike, "class A implements I , J"+unlike+g+f, g+"interface I extends J { method f ( ) int ; } class A implements I"+unlike,
		g+f+"interface K extends J { } class A implements I , K"+unlike)
	refused(t, api.ErrType, "interface I { method f ( ) int ; method g ( ) int ; } class A implements I"+unlike)
	refused(t, api.ErrNone, "interface I { method g ( ) int ; method f ( ) int ; } class A implements I"+unlike)
}

// fault is a program with one fault, of classes whose names have a mark at their end.
type fault struct {
	text  string
	phase int // 0: hier's; 1: of the members; 2: against the super's; 3: against the interfaces'
	e     api.Errno
}

func faults() []fault {
	return []fault{
		{"class A# extends X { }", 0, api.ErrNone},
		{"class A# { } class A# { field x : void ; }", 0, api.ErrTwice},
		{"interface A# { method f ( void ) int ; field x : int ; }", 1, api.ErrForm},
		{"class A# { method f ( ) int ; method f ( ) X ; }", 1, api.ErrForm},
		{"class A# { field x : X ; static x : int ; }", 1, api.ErrTwice},
		{"interface A# { method f ( ) int ; method f ( ) X ; }", 1, api.ErrTwice},
		{"class A# { field x : X ; }", 1, api.ErrNone},
		{"interface A# { method f ( X [ ] ) int ; }", 1, api.ErrNone},
		{"class A# { field x : int ; method f ( ) int locals 1 { } } class B# extends A# { field x : int ; method f ( ) void locals 1 { } }", 2, api.ErrTwice},
		{"class A# { method f ( ) int locals 1 { } } class B# extends A# { method f ( ) void locals 1 { } }", 2, api.ErrType},
		{"interface I# { method f ( ) int ; } class A# implements I# { }", 3, api.ErrNone},
		{"interface I# { method f ( ) int ; } class A# implements I# { method f ( ) void locals 1 { } }", 3, api.ErrType},
	}
}

// Of each two faults in one program that one is told which is looked for first; of one phase, that of the class ahead.
func TestTwoFaults(t *testing.T) {
	for _, first := range faults() {
		for _, next := range faults() {
			text := strings.ReplaceAll(first.text, "#", "1") + strings.ReplaceAll(next.text, "#", "2")
			want := first.e
			if next.phase < first.phase {
				want = next.e
			}
			if first.phase == 0 && next.phase == 0 && first.e != next.e {
				want = api.ErrTwice // hier looks for it in all classes first
			}
			refused(t, want, text)
		}
	}
}

// A class' own faults are told in the order of the phases, however they stand in it.
func TestFaultsOfOneClass(t *testing.T) {
	parts := []struct {
		text string
		e    api.Errno
	}{
		{"field v : void ;", api.ErrForm}, {"field y : X ; field y : int ;", api.ErrTwice}, {"method g ( X ) int locals 1 { }", api.ErrNone},
		{"field x : int ;", api.ErrTwice}, {"method f ( ) void locals 1 { }", api.ErrType},
	}
	ahead := "interface I { method h ( ) int ; } class A { field x : int ; method f ( ) int locals 1 { } } class B extends A implements I {"
	for bits := range 1 << len(parts) {
		want := api.ErrNone // h is wanting
		var l []string
		for k := len(parts) - 1; k >= 0; k-- {
			if bits>>k&1 == 1 {
				want = parts[k].e
				l = append(l, parts[k].text)
			}
		}
		refused(t, want, ahead+strings.Join(l, " ")+"}")
		slices.Reverse(l)
		refused(t, want, ahead+strings.Join(l, " ")+"}")
	}
}

// orders answers three things in each order.
func orders[T any](a, b, c T) [][]T {
	return [][]T{{a, b, c}, {a, c, b}, {b, a, c}, {b, c, a}, {c, a, b}, {c, b, a}}
}

// Every program of A, of B that is of A, and of I, in each order, with small sets of members, and with I above both of
// them, above B, above none. Check is asked of all of them, the other calls of some.
func TestAllSmallPrograms(t *testing.T) {
	num, void := api.Type{Kind: api.Int}, api.Type{Kind: api.Void}
	var heads []api.Class
	for _, fields := range [][]api.Field{nil, {{Name: "x", Type: num}}, {{Name: "x", Type: num, Static: true}}} {
		for _, methods := range [][]api.Method{nil, {{Name: "f", Ret: num}}, {{Name: "f", Ret: void}}, {{Name: "f", Ret: num, Static: true}}} {
			heads = append(heads, api.Class{Fields: fields, Methods: methods}, api.Class{Fields: fields, Methods: methods, Ifaces: []string{"I"}})
		}
	}
	found := map[api.Errno]int{}
	for _, methods := range [][]api.Method{nil, {{Name: "f", Ret: num, Abstract: true}}, {{Name: "f", Ret: void, Abstract: true}}} {
		for _, a := range heads {
			for _, b := range heads {
				a.Name, b.Name, b.Super = "A", "B", "A"
				for _, l := range orders(a, b, api.Class{Name: "I", Iface: true, Methods: methods}) {
					p := api.Program{Classes: l}
					want := plainCheck(p)
					if found[want]++; found[want]%80 == 1 {
						checkAsPlain(t, p)
					} else if e := Check(p); e != want {
						t.Errorf("%+v: %d, not %d", p, e, want)
					}
				}
			}
		}
	}
	for _, e := range []api.Errno{api.OK, api.ErrTwice, api.ErrNone, api.ErrType} {
		if found[e] < 200 {
			t.Error(found)
		}
	}
}

func TestRandomFaults(t *testing.T) {
	m := maker{rand.New(rand.NewPCG(5, 3))}
	found := map[api.Errno]int{}
	for range 4000 {
		p := m.bent()
		want := plainCheck(p)
		if found[want]++; found[want]%40 == 1 {
			checkAsPlain(t, p)
		} else if e := Check(p); e != want {
			t.Errorf("%+v: %d, not %d", p, e, want)
		}
	}
	for _, e := range []api.Errno{api.OK, api.ErrForm, api.ErrTwice, api.ErrNone, api.ErrType} {
		if found[e] < 100 {
			t.Error(found)
		}
	}
}

// Each of many interfaces comes of up to four ahead of it: the ways up are many more than the interfaces.
func TestManyWaysUp(t *testing.T) {
	var p api.Program
	for k := range api.MaxClasses {
		name := "C" + strconv.Itoa(k)
		c := api.Class{Name: name, Iface: k < api.MaxClasses-1}
		for up := max(0, k-4); up < k; up++ {
			c.Ifaces = append(c.Ifaces, "C"+strconv.Itoa(up))
		}
		if k == 0 {
			c.Methods = []api.Method{{Name: "f", Ret: api.Type{Kind: api.Int}, Abstract: true}}
		}
		p.Classes = append(p.Classes, c)
	}
	checkRefused(t, "ways", p, api.ErrNone)
	p.Classes[api.MaxClasses-1].Methods = []api.Method{{Name: "f", Ret: api.Type{Kind: api.Int}}}
	checkTaken(t, "ways", p)
}
