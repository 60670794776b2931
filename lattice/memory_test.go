package lattice

import (
	"math/rand/v2"
	"reflect"
	"testing"

	"delver/api"
)

// roomy answers a copy whose lists have spare room, with items there that are wrong.
func roomy(p api.Program) api.Program {
	p.Classes = spare(p.Classes, api.Class{Name: "X"})
	for i := range p.Classes {
		c := &p.Classes[i]
		c.Ifaces, c.Fields, c.Methods = spare(c.Ifaces, "X"), spare(c.Fields, api.Field{Name: "int"}), spare(c.Methods, api.Method{Name: "int"})
		for j := range c.Methods {
			m := &c.Methods[j]
			m.Params, m.Code, m.Catches = spare(m.Params, api.Type{Kind: api.Null}), spare(m.Code, api.Instr{Op: -1}), spare(m.Catches, api.Catch{Name: "int"})
		}
	}
	return p
}

// spare answers a copy of a list with three of what is wrong behind it.
func spare[T any](l []T, wrong T) []T {
	n := len(l)
	l = append(append(make([]T, 0, n+3), l...), wrong, wrong, wrong)
	return l[:n]
}

// unfolded answers a copy of all that lies in the memory of lists in v, in their spare room too.
func unfolded(v reflect.Value) []any {
	var l []any
	switch v.Kind() {
	case reflect.Struct:
		for i := range v.NumField() {
			l = append(l, unfolded(v.Field(i))...)
		}
	case reflect.Slice:
		v = v.Slice(0, v.Cap())
		items := reflect.MakeSlice(v.Type(), v.Len(), v.Len())
		reflect.Copy(items, v)
		l = append(l, items.Interface())
		for i := range v.Len() {
			l = append(l, unfolded(v.Index(i))...)
		}
	}
	return l
}

// programs answers programs that are taken, and such as are refused.
func programs(t *testing.T) (taken, refused []api.Program) {
	t.Helper()
	m := maker{rand.New(rand.NewPCG(6, 4))}
	taken = []api.Program{{}, read(t, family)}
	for range 6 {
		taken = append(taken, m.sound(6))
	}
	for _, fault := range faults() {
		refused = append(refused, m.spoilt(fault))
	}
	return taken, refused
}

// What lies behind a list's length is wrong in each list: whoever reads it answers otherwise.
func TestArgumentsStayAndNothingBehindThemIsRead(t *testing.T) {
	taken, refused := programs(t)
	check := func(p api.Program, ask func(*testing.T, api.Program)) {
		given := roomy(p)
		before := unfolded(reflect.ValueOf(given))
		ask(t, given)
		if !reflect.DeepEqual(unfolded(reflect.ValueOf(given)), before) {
			t.Fatalf("%+v is changed", p)
		}
	}
	for _, p := range taken {
		check(p, checkTaken)
	}
	for _, p := range refused {
		check(p, checkRefused)
	}
}

// nil and an empty list mean the same.
func TestEmptyListsAreTheSameAsNone(t *testing.T) {
	checkTaken(t, api.Program{Classes: []api.Class{}})
	checkTaken(t, api.Program{Classes: []api.Class{
		{Name: "I", Iface: true, Ifaces: []string{}, Fields: []api.Field{}, Methods: []api.Method{}},
		{Name: "A", Ifaces: make([]string, 0, 4), Fields: make([]api.Field, 0, 4)},
		{Name: "B", Super: "A", Ifaces: []string{"I"}, Methods: []api.Method{{Name: "f", Params: []api.Type{}, Ret: api.Type{Kind: api.Void}, Code: []api.Instr{}, Catches: []api.Catch{}}}},
	}})
}

// What was asked ahead, of one program or another, refused or not, changes no answer. The classes of all of them have the
// same names.
func TestNothingIsKept(t *testing.T) {
	texts := []string{
		"class A { } class B extends A { }", "class B { } class A extends B { }", "interface A { } interface B extends A { }",
		"interface A { } class B implements A { }", "class A extends Error { } class B extends NumError { }", "class A { } class B { }", "class A { }", "",
	}
	refused := read(t, "class A { field x : X ; } class B extends A { }")
	for range 2 {
		for _, text := range texts {
			checkTaken(t, read(t, text))
			checkRefused(t, refused)
		}
	}
}

// One program that is changed between two calls is another one.
func TestProgramsThatChange(t *testing.T) {
	p := read(t, "class A { } class B extends A { } class C extends A { field x : int ; }")
	checkMeet(t, p, "B", "C", "A")
	p.Classes[1].Super = "C"
	checkMeet(t, p, "B", "C", "C")
	p.Classes[1].Super = "NumError"
	checkMeet(t, p, "B", "C", "Object")
	p.Classes[0].Super = "NullError"
	checkMeet(t, p, "B", "C", "Error")
	p.Classes[2].Fields[0].Type = api.Type{Kind: api.Void}
	checkRefused(t, p)
	p.Classes[2].Fields[0].Type = api.Type{Kind: api.RefRow, Name: "B"}
	checkMeet(t, p, "B", "C", "Error")
	p.Classes[1].Name = "D"
	p.Classes[2].Fields[0].Type.Name = "D"
	checkMeet(t, p, "D", "C", "Error")
	if Right(p, typeOf("B")) || Fits(p, typeOf("B"), typeOf("Object")) {
		t.Error("B is still there")
	}
}
