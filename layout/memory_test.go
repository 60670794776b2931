package layout

import (
	"math/rand/v2"
	"reflect"
	"testing"

	"delver/api"
	"delver/hier"
)

// roomy answers a copy whose lists have spare room, with items there that are wrong.
func roomy(p api.Program) api.Program {
	p.Classes = spare(p.Classes, api.Class{Name: "int", Iface: true, Super: "Spare"})
	for i := range p.Classes {
		c := &p.Classes[i]
		c.Ifaces, c.Fields, c.Methods = spare(c.Ifaces, "Spare"), spare(c.Fields, api.Field{Name: "int"}), spare(c.Methods, api.Method{Name: "int"})
		for j := range c.Methods {
			m := &c.Methods[j]
			m.Params, m.Code, m.Catches = spare(m.Params, api.Type{Kind: api.Null}), spare(m.Code, api.Instr{Op: -1}), spare(m.Catches, api.Catch{Name: "int"})
		}
	}
	return p
}

// spare answers a copy of a list with three of what is wrong behind it.
func spare[T any](l []T, wrong T) []T {
	n := len(l)
	l = append(append(make([]T, 0, n+3), l...), wrong, wrong, wrong)
	return l[:n]
}

// lists answers each list in v, those in lists' spare room too.
func lists(v reflect.Value) []reflect.Value {
	var l []reflect.Value
	switch v.Kind() {
	case reflect.Struct:
		for i := range v.NumField() {
			l = append(l, lists(v.Field(i))...)
		}
	case reflect.Slice:
		v = v.Slice(0, v.Cap())
		l = append(l, v)
		for i := range v.Len() {
			l = append(l, lists(v.Index(i))...)
		}
	}
	return l
}

// unfolded answers a copy of all that lies in p's lists' memory.
func unfolded(p api.Program) []any {
	var l []any
	for _, list := range lists(reflect.ValueOf(p)) {
		items := reflect.MakeSlice(list.Type(), list.Len(), list.Len())
		reflect.Copy(items, list)
		l = append(l, items.Interface())
	}
	return l
}

// checkApart holds that no two lists share memory.
func checkApart(t *testing.T, what any, values ...any) {
	t.Helper()
	taken := map[uintptr]bool{}
	for _, v := range values {
		for _, list := range lists(reflect.ValueOf(v)) {
			for i := range list.Len() {
				at := list.Index(i).Addr().Pointer()
				for range list.Type().Elem().Size() {
					if taken[at] {
						t.Fatalf("%v: two lists share memory: %v", what, list)
					}
					taken[at] = true
					at++
				}
			}
		}
	}
}

// programs answers programs of every kind, taken and refused.
func programs(t *testing.T) []api.Program {
	t.Helper()
	m := maker{rand.New(rand.NewPCG(5, 4))}
	l := []api.Program{{}, read(t, family), {Classes: make([]api.Class, api.MaxClasses+1)}}
	for range 25 {
		l = append(l, m.sound(api.MaxClasses), m.bent())
	}
	return l
}

// answers answers what each call says of each class and each name, but for the errors.
func answers(p api.Program) []any {
	Check(p)
	statics, _ := Statics(p)
	l := []any{statics}
	for _, c := range hier.All(p) {
		slots, _ := Slots(p, c.Name)
		l = append(l, slots)
		for _, name := range memberNames(p) {
			_, m, _ := Method(p, c.Name, name)
			f, _ := Call(p, c.Name, name)
			l = append(l, m, f)
		}
	}
	return l
}

func TestArgumentsStayAsTheyWere(t *testing.T) {
	for _, p := range programs(t) {
		given := roomy(p)
		before := unfolded(given)
		answers(given)
		if !reflect.DeepEqual(unfolded(given), before) {
			t.Fatalf("%+v is changed", p)
		}
	}
}

// What lies behind a list's length is wrong in each list: whoever reads it answers otherwise.
func TestNothingBehindAListIsRead(t *testing.T) {
	for _, p := range programs(t) {
		if e := checkAsPlain(t, roomy(p)); e != plainCheck(p) {
			t.Errorf("%+v: %d", p, e)
		}
	}
}

func TestAnswersAreNewMemory(t *testing.T) {
	for _, p := range programs(t) {
		given := roomy(p)
		values := append([]any{given}, answers(given)...)
		checkApart(t, p, append(values, answers(given)...)...)
	}
}

// Whoever writes into an answer, or behind it, changes nothing for those who ask later.
func TestWritingIntoAnswers(t *testing.T) {
	p := read(t, family)
	for _, v := range answers(p) {
		for _, list := range lists(reflect.ValueOf(v)) {
			list.Clear()
		}
	}
	if want := read(t, family); !reflect.DeepEqual(p, want) {
		t.Errorf("%+v", p)
	}
	checkTaken(t, "family", p)
}

// nil and an empty list mean the same.
func TestEmptyListsAreTheSameAsNone(t *testing.T) {
	num := api.Type{Kind: api.Int}
	bare := func(abstract bool) []api.Method {
		return []api.Method{{Name: "f", Abstract: abstract, Params: []api.Type{}, Ret: num, Code: []api.Instr{}, Catches: []api.Catch{}}}
	}
	checkTaken(t, "empty", api.Program{Classes: []api.Class{
		{Name: "I", Iface: true, Ifaces: []string{}, Fields: []api.Field{}, Methods: bare(true)},
		{Name: "A", Ifaces: []string{"I"}, Fields: make([]api.Field, 0, 4), Methods: []api.Method{{Name: "f", Ret: num}}},
		{Name: "B", Super: "A", Ifaces: make([]string, 0, 4), Methods: bare(false)},
		{Name: "C", Super: "B", Fields: []api.Field{}, Methods: []api.Method{}},
	}})
}

// What was asked ahead, of one program or another, refused or not, changes no answer. The classes of all of them have the
// same names.
func TestNothingIsKept(t *testing.T) {
	p := read(t, "class A { field x : int ; static s : int ; method f ( ) int locals 1 { } } class B extends A { field y : A ; }")
	q := read(t, "class B { field z : B ; method f ( ) void locals 2 { } } class A extends B { static s : A ; function g ( ) A locals 3 { } }")
	r := read(t, "interface A { method f ( ) A ; } interface B extends A { }")
	form, none := read(t, "class A { field x : void ; } class B extends A { }"), read(t, "class A { field x : C ; } class B { }")
	for range 3 {
		checkTaken(t, "p", p)
		checkRefused(t, "form", form, api.ErrForm)
		checkTaken(t, "q", q)
		checkTaken(t, "r", r)
		checkRefused(t, "none", none, api.ErrNone)
		slots, _ := Slots(p, "B")
		others, _ := Slots(q, "B")
		if told(t, slots) != "A.x:int B.y:A" || told(t, others) != "B.z:B" {
			t.Error(slots, others)
		}
	}
}

// One program that is changed between two calls is another one.
func TestProgramsThatChange(t *testing.T) {
	p := read(t, "class A { field x : int ; method f ( ) int locals 1 { } } class B extends A { }")
	checkTaken(t, "first", p)
	p.Classes[0].Fields[0].Name = "y"
	p.Classes[0].Methods[0].Locals = 2
	checkTaken(t, "next", p)
	p.Classes[0].Fields[0].Type = api.Type{Kind: api.Void}
	checkRefused(t, "void", p, api.ErrForm)
	p.Classes[0].Fields[0].Type = api.Type{Kind: api.IntRow}
	checkTaken(t, "last", p)
}
