package hier

import (
	"math/rand/v2"
	"slices"
	"strings"
	"testing"

	"delver/api"
)

func TestTwoOfOneName(t *testing.T) {
	for _, text := range []string{
		"class A { } class A { }", "class A { } interface A { }", "interface A { } class A { }", "interface A { } interface A { }",
		"class A { } class B { } class C { } class A { }", "class A { } class B { } class B { }", "class A { } class A { } class A { }",
		"class A { field x : int ; } class A extends Error { }",
	} {
		checkRefused(t, text, read(t, text), api.ErrTwice)
	}
	for _, s := range strings.Fields(plainStanding) {
		name, _, _ := strings.Cut(s, ":")
		for _, text := range []string{"class " + name + " { }", "interface " + name + " { }", "class A { } class " + name + " { } class B { }"} {
			checkRefused(t, text, read(t, text), api.ErrTwice)
		}
	}
	for _, text := range []string{"class A { } class a { }", "class object { } class Err { } class Objects { } interface Errors { }", "class A { field A : A ; method A ( ) A ; }"} {
		checkTaken(t, text, read(t, text))
	}
}

func TestSupersOfNobody(t *testing.T) {
	for _, text := range []string{
		"class A extends X { }", "class A extends a { }", "class A extends object { }", "class A { } class B extends A { } class C extends X { }",
		"interface I { } class A extends I { }", "class A extends I { } interface I { }", "interface I { } class A { } class B extends A { } class C extends I implements I { }",
	} {
		checkRefused(t, text, read(t, text), api.ErrNone)
	}
	for _, text := range []string{"class A extends Object { }", "class A extends Error { }", "class A extends DepthError { }", "class A extends B { } class B { }"} {
		checkTaken(t, text, read(t, text))
	}
}

func TestIfacesOfNobody(t *testing.T) {
	for _, text := range []string{
		"class A implements X { }", "interface I extends X { }", "interface I { } class A implements I , X { }", "interface I { } class A implements I , I , I , X { }",
		"interface I { } interface J extends X , I { }", "class A implements Object { }", "class A implements NumError { }", "interface I extends Object { }", "interface I extends Error { }",
		"class B { } class A implements B { }", "class A implements B { } class B { }", "class B { } interface I extends B { }", "interface I { } class B { } class A extends B implements I , B { }",
	} {
		checkRefused(t, text, read(t, text), api.ErrNone)
	}
	for _, text := range []string{
		"interface I { } class A implements I { }", "class A implements I { } interface I { }", "interface J extends I , I { } interface I { } class A implements I , J , I , J { }",
		"interface I { } class A extends Error implements I { }",
	} {
		checkTaken(t, text, read(t, text))
	}
}

func TestRings(t *testing.T) {
	for _, text := range []string{
		"class A extends A { }", "interface I extends I { }", "class A extends B { } class B extends A { }", "interface I extends J { } interface J extends I { }",
		"class A extends B { } class B extends B { }", "class A { } class B { } class C extends C { }",
		"interface I { } interface J extends I , J { }", "interface I { } interface J extends I , I , I , J { }",
		"interface I extends J { } interface J extends K , I { } interface K { }", "interface I extends K , J { } interface J extends I { } interface K { }",
		// whoever comes of one in a ring need not be in it
		"class A implements I { } interface I extends J { } interface J extends J { }", "class A extends B { } class B implements I { } interface I extends I { }",
		// two rings, and a ring in a ring
		"class A extends A { } interface I extends I { }", "interface I extends J , I { } interface J extends I , J { }",
	} {
		checkRefused(t, text, read(t, text), api.ErrRing)
	}
}

// Rings of each length, behind ways of each length.
func TestLongRings(t *testing.T) {
	for _, iface := range []bool{false, true} {
		for n := 1; n <= api.MaxClasses; n++ {
			for last := range n {
				p := rowOf(n, last, iface)
				checkRefused(t, n, p, api.ErrRing)
				slices.Reverse(p.Classes)
				checkRefused(t, n, p, api.ErrRing)
			}
		}
	}
}

// Each of all comes of four others: there is no end to the ways.
func TestEveryoneOfEveryone(t *testing.T) {
	p := rowOf(api.MaxClasses, 0, true)
	for i := range p.Classes {
		for k := range 3 {
			p.Classes[i].Ifaces = append(p.Classes[i].Ifaces, p.Classes[(i*(k+2)+k)%api.MaxClasses].Name)
		}
	}
	checkRefused(t, "everyone", p, api.ErrRing)
}

func TestWhatShowRefuses(t *testing.T) {
	num, void := api.Type{Kind: api.Int}, api.Type{Kind: api.Void}
	for what, c := range map[string]api.Class{
		"no name":           {},
		"a name kept":       {Name: "class"},
		"a name too long":   {Name: strings.Repeat("n", api.MaxName+1)},
		"a super kept":      {Name: "A", Super: "int"},
		"a super of blanks": {Name: "A", Super: " "},
		"a super's super":   {Name: "I", Iface: true, Super: "Object"},
		"no interface":      {Name: "A", Ifaces: []string{""}},
		"five interfaces":   {Name: "A", Ifaces: []string{"I", "I", "I", "I", "I"}},
		"a field":           {Name: "A", Fields: []api.Field{{Name: "x"}}},
		"seven fields":      {Name: "A", Fields: slices.Repeat([]api.Field{{Name: "x", Type: num}}, 7)},
		"a parameter":       {Name: "A", Methods: []api.Method{{Name: "f", Params: []api.Type{{Kind: api.Null}}, Ret: void}}},
		"an instruction":    {Name: "A", Methods: []api.Method{{Name: "f", Ret: void, Code: []api.Instr{{Op: api.Ops}}}}},
		"a catch":           {Name: "A", Methods: []api.Method{{Name: "f", Ret: void, Catches: []api.Catch{{Name: "E", From: -1}}}}},
		"an abstract body":  {Name: "A", Methods: []api.Method{{Name: "f", Ret: void, Abstract: true, Locals: 1}}},
	} {
		i := api.Class{Name: "I", Iface: true}
		checkRefused(t, what, api.Program{Classes: []api.Class{c}}, api.ErrForm)
		checkRefused(t, what, api.Program{Classes: []api.Class{{Name: "B"}, i, c}}, api.ErrForm)
	}
}

// Of several errors that one is told which the call's text names first, wherever they stand.
func TestSeveralErrors(t *testing.T) {
	form, twice := "class Form { }", "class T { } class T { }"
	none, noneToo, ring, ringToo := "class N extends X { }", "interface M extends Object { }", "class R extends R { }", "interface S extends Q { } interface Q extends S { }"
	faults := []struct {
		text string
		e    api.Errno
	}{{form, api.ErrForm}, {twice, api.ErrTwice}, {none, api.ErrNone}, {noneToo, api.ErrNone}, {ring, api.ErrRing}, {ringToo, api.ErrRing}}
	rank := []api.Errno{api.ErrForm, api.ErrTwice, api.ErrNone, api.ErrRing}
	for bits := 1; bits < 1<<len(faults); bits++ {
		var texts []string
		first := len(rank)
		for k, f := range faults {
			if bits>>k&1 == 1 {
				texts = append(texts, f.text)
				first = min(first, slices.Index(rank, f.e))
			}
		}
		for range 2 {
			p := read(t, strings.Join(texts, " "))
			for i := range p.Classes {
				if p.Classes[i].Name == "Form" {
					p.Classes[i].Fields = []api.Field{{Name: "x"}}
				}
			}
			checkRefused(t, texts, p, rank[first])
			slices.Reverse(texts)
		}
	}
}

// One fault that is two: the name that is there twice is in a ring, or nobody's, or both.
func TestErrorsInOnePlace(t *testing.T) {
	for text, want := range map[string]api.Errno{
		"class A extends A { } class A { }":                          api.ErrTwice,
		"class A extends X { } class A extends X { }":                api.ErrTwice,
		"interface A { } class A extends A { }":                      api.ErrTwice,
		"class Object extends Object { }":                            api.ErrTwice,
		"class Object extends A { } class A { }":                     api.ErrTwice,
		"interface Error extends Error { }":                          api.ErrTwice,
		"class A extends A implements X { }":                         api.ErrNone,
		"class A implements A { }":                                   api.ErrNone,
		"class A extends A implements A { }":                         api.ErrNone,
		"class A extends B { } class B implements A { }":             api.ErrNone,
		"interface I extends A { } class A implements I { }":         api.ErrNone,
		"interface I extends I , X { }":                              api.ErrNone,
		"class A extends I { } interface I extends A { }":            api.ErrNone,
		"class A extends B { } class B extends A implements NoIf {}": api.ErrNone,
	} {
		checkRefused(t, text, read(t, text), want)
	}
	p := api.Program{Classes: []api.Class{{Name: "I", Iface: true, Super: "I"}, {Name: "I"}}}
	checkRefused(t, "an interface of itself by its super", p, api.ErrForm)
}

// Every program of A, B and C, each a class or an interface, of any super among these, none and nobody, of any set of these as Ifaces. Check is asked of all of them, the other calls of each that is taken and of some that are refused.
func TestAllSmallPrograms(t *testing.T) {
	names := []string{"A", "B", "C"}
	var heads []api.Class
	for bits := range 8 {
		var ifaces []string
		for k, name := range names {
			if bits>>k&1 == 1 {
				ifaces = append(ifaces, name)
			}
		}
		heads = append(heads, api.Class{Iface: true, Ifaces: ifaces})
		for _, super := range []string{"", "A", "B", "C", "X"} {
			heads = append(heads, api.Class{Super: super, Ifaces: ifaces})
		}
	}
	found := map[api.Errno]int{}
	for _, a := range heads {
		for _, b := range heads {
			for _, c := range heads {
				p := api.Program{Classes: []api.Class{a, b, c}}
				for i, name := range names {
					p.Classes[i].Name = name
				}
				want := plainCheck(p)
				if found[want]++; found[want]%50 == 1 && want != api.OK {
					checkRefused(t, p, p, want)
				} else if want == api.OK {
					checkTaken(t, p, p)
				} else if e := Check(p); e != want {
					t.Errorf("%+v: %d, not %d", p, e, want)
				}
			}
		}
	}
	if found[api.OK] < 50 || found[api.ErrNone] < 50 || found[api.ErrRing] < 50 {
		t.Error(found)
	}
}

func TestRandomFaults(t *testing.T) {
	m := maker{rand.New(rand.NewPCG(4, 3))}
	found := map[api.Errno]int{}
	for range 3000 {
		found[checkAsPlain(t, m.bent())]++
	}
	for _, e := range []api.Errno{api.OK, api.ErrForm, api.ErrTwice, api.ErrNone, api.ErrRing} {
		if found[e] < 50 {
			t.Error(found)
		}
	}
}
