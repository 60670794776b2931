package flow

import (
	"reflect"
	"testing"

	"delver/api"
	"delver/layout"
)

// roomy answers a copy whose lists have spare room, with items there that are wrong.
func roomy(p api.Program) api.Program {
	p.Classes = spare(p.Classes, api.Class{Name: "int", Iface: true, Super: "Spare"})
	for i := range p.Classes {
		c := &p.Classes[i]
		c.Ifaces, c.Fields, c.Methods = spare(c.Ifaces, "Spare"), spare(c.Fields, api.Field{Name: "int"}), spare(c.Methods, api.Method{Name: "int"})
		for j := range c.Methods {
			m := &c.Methods[j]
			m.Params, m.Code, m.Catches = spare(m.Params, api.Type{Kind: api.Null}), spare(m.Code, api.Instr{Op: -1}), spare(m.Catches, api.Catch{Name: "int"})
		}
	}
	return p
}

// spare answers a copy of a list with three of what is wrong behind it.
func spare[T any](l []T, wrong T) []T {
	n := len(l)
	l = append(append(make([]T, 0, n+3), l...), wrong, wrong, wrong)
	return l[:n]
}

// lists answers each list in v, those in lists' spare room too.
func lists(v reflect.Value) []reflect.Value {
	var l []reflect.Value
	switch v.Kind() {
	case reflect.Struct:
		for i := range v.NumField() {
			l = append(l, lists(v.Field(i))...)
		}
	case reflect.Slice:
		v = v.Slice(0, v.Cap())
		l = append(l, v)
		for i := range v.Len() {
			l = append(l, lists(v.Index(i))...)
		}
	}
	return l
}

// unfolded answers a copy of all that lies in p's lists' memory.
func unfolded(p api.Program) []any {
	var l []any
	for _, list := range lists(reflect.ValueOf(p)) {
		items := reflect.MakeSlice(list.Type(), list.Len(), list.Len())
		reflect.Copy(items, list)
		l = append(l, items.Interface())
	}
	return l
}

// checkApart holds that no two lists share memory.
func checkApart(t *testing.T, what any, values ...any) {
	t.Helper()
	taken := map[uintptr]bool{}
	for _, v := range values {
		for _, list := range lists(reflect.ValueOf(v)) {
			for i := range list.Len() {
				at := list.Index(i).Addr().Pointer()
				for range list.Type().Elem().Size() {
					if taken[at] {
						t.Fatalf("%v: two lists share memory: %v", what, list)
					}
					taken[at] = true
					at++
				}
			}
		}
	}
}

// loop is a program in which ways meet in loops, by catches, in locals and on stacks.
const loop = "class T { function t ( int , B ) void locals 4 { load 1 ; store 2 ; null ; load 0 ; ifeq 12 ; pop ; new C ; store 2 ; new Oops ; load 0 ; ifeq 3 ; goto 3 ; throw ; load 2 ; pop ; pop ; leave ; catch NumError 1 12 15 ; } }" + others

// programs answers programs of every kind: sound, faulty, refused.
func programs(t *testing.T) []api.Program {
	t.Helper()
	l := []api.Program{{}, read(t, others), read(t, loop), {Classes: make([]api.Class, api.MaxClasses+1)}}
	for _, p := range refused(t) {
		l = append(l, p)
	}
	m := newMaker(t, 4)
	for k := range 40 {
		l = append(l, m.program(k%3))
	}
	return l
}

// answers answers what each call says of each method and each place, but for the errors.
func answers(p api.Program) []any {
	Check(p)
	var l []any
	for _, c := range p.Classes {
		for _, m := range c.Methods {
			states, _, _ := States(p, c.Name, m.Name)
			l = append(l, states)
			for at := range m.Code {
				l = append(l, Next(m, at))
			}
		}
	}
	return l
}

func TestArgumentsStayAsTheyWere(t *testing.T) {
	for _, p := range programs(t) {
		given := roomy(p)
		before := unfolded(given)
		answers(given)
		if !reflect.DeepEqual(unfolded(given), before) {
			t.Fatalf("%+v is changed", p)
		}
	}
}

// What lies behind a list's length is wrong in each list: whoever reads it answers otherwise.
func TestNothingBehindAListIsRead(t *testing.T) {
	for _, p := range programs(t) {
		if layout.Check(p) == api.OK {
			checkAsPlain(t, roomy(p))
		}
	}
}

func TestAnswersAreNewMemory(t *testing.T) {
	for _, p := range programs(t) {
		given := roomy(p)
		values := append([]any{given}, answers(given)...)
		checkApart(t, p, append(values, answers(given)...)...)
	}
}

// Whoever writes into an answer, or behind it, changes nothing for those who ask later, and no other list.
func TestWritingIntoAnswers(t *testing.T) {
	p := read(t, loop)
	for _, v := range answers(p) {
		for _, list := range lists(reflect.ValueOf(v)) {
			list.Clear()
		}
	}
	if want := read(t, loop); !reflect.DeepEqual(p, want) {
		t.Errorf("%+v", p)
	}
	checkAsPlain(t, p)
	l, _, _ := States(p, "T", "t")
	before := toldStates(l[1:])
	l[0].Locals = append(l[0].Locals, api.Type{})
	clear(l[0].Locals)
	_ = append(l[3].Stack, api.Type{}, api.Type{})
	if after := toldStates(l[1:]); after != before {
		t.Errorf("%s, not %s", after, before)
	}
}

// nil and an empty list mean the same.
func TestEmptyListsAreTheSameAsNone(t *testing.T) {
	code := []api.Instr{{Op: api.OpLeave}}
	void := api.Type{Kind: api.Void}
	full := func(empty bool) api.Program {
		m := api.Method{Name: "f", Static: true, Ret: void, Code: code}
		none := api.Method{Name: "g", Ret: void, Locals: 1}
		if empty {
			m.Params, m.Catches = []api.Type{}, []api.Catch{}
			none.Params, none.Code, none.Catches = make([]api.Type, 0, 4), make([]api.Instr, 0, 4), make([]api.Catch, 0, 4)
			return api.Program{Classes: []api.Class{{Name: "A", Ifaces: []string{}, Fields: []api.Field{}, Methods: []api.Method{m, none}}}}
		}
		return api.Program{Classes: []api.Class{{Name: "A", Methods: []api.Method{m, none}}}}
	}
	for _, empty := range []bool{false, true} {
		p := full(empty)
		if outcome(t, p, "A", "f") != "|" || outcome(t, p, "A", "g") != "length at 0" || checked(p) != "g of A: length at 0" {
			t.Errorf("%+v", p)
		}
		if l := Next(p.Classes[0].Methods[1], 0); len(l) != 0 {
			t.Error(l)
		}
	}
}

// What was asked ahead, of one program or another, refused or not, changes no answer. Their classes, fields and methods
// have the same names.
func TestNothingIsKept(t *testing.T) {
	code := " function t ( int ) void locals 2 { load 0 ; ifeq 4 ; new B ; goto 5 ; new C ; store 1 ; load 1 ; get A x ; pop ; func A u ; pop ; leave ; } } "
	a, b := "class B extends A { } class C extends A { } ", "class B extends C { } class C extends A { } "
	l := [][2]string{
		{"", "class T {" + code + a + "class A { field x : int ; function u ( ) int locals 0 { const 1 ; ret ; } }"},
		{"t of T: type at 7", "class T {" + code + "class B extends A { } class C { } class A { field x : int ; function u ( ) int locals 0 { const 1 ; ret ; } }"},
		{"", "class T {" + code + b + "class A { field x : A ; function u ( ) A locals 0 { null ; ret ; } }"},
		{"t of T: none at 7", "class T {" + code + b + "class A { field y : A ; function u ( ) A locals 0 { null ; ret ; } }"},
		{"t of T: stack at 10", "class T {" + code + b + "class A { field x : A ; function u ( ) void locals 0 { leave ; } }"},
		{"t of T: none at 4", "class T {" + code + "class B extends A { } interface C { } class A { field x : int ; }"},
		{"u of A: stack at 0", "class T {" + code + b + "class A { field x : A ; function u ( ) A locals 0 { ret ; } }"},
		{" of : none at 0", "class T {" + code + b + "class A { field x : X ; }"},
	}
	for range 3 {
		for _, c := range l {
			p := read(t, c[1])
			if got := checked(p); got != c[0] {
				t.Errorf("%s: %q, not %q", c[1], got, c[0])
			}
			if layout.Check(p) == api.OK {
				checkAsPlain(t, p)
			}
		}
	}
}

// One program that is changed between two calls is another one.
func TestProgramsThatChange(t *testing.T) {
	p := withCode(t, "function t ( B ) void locals 1", "load 0 ; get A y ; store 0 ; leave ;")
	want := "B|, B|B, B|B, B|"
	ask := func(want string) {
		t.Helper()
		if got := outcome(t, p, "T", "t"); got != want {
			t.Errorf("%s, not %s", got, want)
		}
	}
	ask(want)
	p.Classes[3].Fields[1].Type = typeOf("int")
	ask("B|, B|B, B|int, int|")
	p.Classes[0].Methods[0].Code[1].B = "s"
	ask("none at 1")
	p.Classes[0].Methods[0].Code[1].B = "y"
	p.Classes[0].Methods[0].Params[0].Name = "C"
	ask("C|, C|C, C|int, int|")
	p.Classes[5].Super = ""
	ask("type at 1")
	p.Classes[0].Methods[0].Locals = 0
	ask("length at 0")
	p.Classes[0].Methods[0].Abstract = true
	ask("form at 0")
}
