package hier

import (
	"math/rand/v2"
	"reflect"
	"testing"

	"delver/api"
)

// roomy answers a copy whose lists have spare room, with items there that are wrong.
func roomy(p api.Program) api.Program {
	p.Classes = spare(p.Classes, api.Class{Name: "int", Iface: true, Super: "Spare"})
	for i := range p.Classes {
		c := &p.Classes[i]
		c.Ifaces, c.Fields, c.Methods = spare(c.Ifaces, "Spare"), spare(c.Fields, api.Field{Name: "int"}), spare(c.Methods, api.Method{Name: "int"})
		for j := range c.Methods {
			m := &c.Methods[j]
			m.Params, m.Code, m.Catches = spare(m.Params, api.Type{Kind: api.Null}), spare(m.Code, api.Instr{Op: -1}), spare(m.Catches, api.Catch{Name: "int"})
		}
	}
	return p
}

// spare answers a copy of a list with three of what is wrong behind it.
func spare[T any](l []T, wrong T) []T {
	n := len(l)
	l = append(append(make([]T, 0, n+3), l...), wrong, wrong, wrong)
	return l[:n]
}

// lists answers each list in v, those in lists' spare room too.
func lists(v reflect.Value) []reflect.Value {
	var l []reflect.Value
	switch v.Kind() {
	case reflect.Struct:
		for i := range v.NumField() {
			l = append(l, lists(v.Field(i))...)
		}
	case reflect.Slice:
		v = v.Slice(0, v.Cap())
		l = append(l, v)
		for i := range v.Len() {
			l = append(l, lists(v.Index(i))...)
		}
	}
	return l
}

// unfolded answers a copy of all that lies in p's lists' memory.
func unfolded(p api.Program) []any {
	var l []any
	for _, list := range lists(reflect.ValueOf(p)) {
		items := reflect.MakeSlice(list.Type(), list.Len(), list.Len())
		reflect.Copy(items, list)
		l = append(l, items.Interface())
	}
	return l
}

// checkApart holds that no two lists share memory.
func checkApart(t *testing.T, what any, values ...any) {
	t.Helper()
	taken := map[uintptr]bool{}
	for _, v := range values {
		for _, list := range lists(reflect.ValueOf(v)) {
			for i := range list.Len() {
				at := list.Index(i).Addr().Pointer()
				for range list.Type().Elem().Size() {
					if taken[at] {
						t.Fatalf("%v: two lists share memory: %v", what, list)
					}
					taken[at] = true
					at++
				}
			}
		}
	}
}

// programs answers programs of every kind, taken and refused.
func programs(t *testing.T) []api.Program {
	t.Helper()
	m := maker{rand.New(rand.NewPCG(4, 4))}
	l := []api.Program{{}, read(t, family), rowOf(api.MaxClasses, 0, false), rowOf(api.MaxClasses+5, -1, true)}
	for range 30 {
		l = append(l, m.sound(api.MaxClasses), m.bent())
	}
	return l
}

// askAll asks each call about each name.
func askAll(p api.Program) {
	Check(p)
	for _, c := range All(p) {
		Find(p, c.Name)
		Super(p, c.Name)
		Kinds(p, c.Name)
		Under(p, c.Name, "Object")
		Under(p, "Object", c.Name)
	}
}

func TestArgumentsStayAsTheyWere(t *testing.T) {
	for _, p := range programs(t) {
		given := roomy(p)
		before := unfolded(given)
		askAll(given)
		if !reflect.DeepEqual(unfolded(given), before) {
			t.Fatalf("%+v is changed", p)
		}
	}
}

// What lies behind a list's length is wrong in each list: whoever reads it answers otherwise.
func TestNothingBehindAListIsRead(t *testing.T) {
	for _, p := range programs(t) {
		if e := checkAsPlain(t, roomy(p)); e != plainCheck(p) {
			t.Errorf("%+v: %d", p, e)
		}
	}
}

func TestAnswersAreNewMemory(t *testing.T) {
	for _, p := range programs(t) {
		given := roomy(p)
		values := []any{given, All(given), All(given)}
		for _, c := range All(given) {
			for range 2 {
				found, _ := Find(given, c.Name)
				values = append(values, found, Kinds(given, c.Name))
			}
		}
		checkApart(t, p, values...)
	}
}

// Whoever writes into an answer changes nothing for those who ask later.
func TestWritingIntoAnswers(t *testing.T) {
	p := read(t, family)
	for _, c := range All(p) {
		found, _ := Find(p, c.Name)
		for _, v := range []any{All(p), found, Kinds(p, c.Name)} {
			for _, list := range lists(reflect.ValueOf(v)) {
				list.Clear()
			}
		}
	}
	if want := read(t, family); !reflect.DeepEqual(p, want) {
		t.Errorf("%+v", p)
	}
	checkTaken(t, "family", p)
	checkTaken(t, "nothing", api.Program{})
}

// An empty list is answered without room, whatever room was behind it.
func TestEmptyListsAreTheSameAsNone(t *testing.T) {
	empty := api.Class{Name: "A", Ifaces: []string{}, Fields: []api.Field{}, Methods: []api.Method{{Name: "f", Params: []api.Type{}, Ret: api.Type{Kind: api.Void}, Code: []api.Instr{}, Catches: []api.Catch{}}}}
	p := api.Program{Classes: []api.Class{empty, {Name: "B", Super: "A", Ifaces: make([]string, 0, 4)}}}
	checkTaken(t, "empty", p)
	for _, c := range All(p) {
		if cap(c.Ifaces)+cap(c.Fields) != 0 {
			t.Error(c.Name)
		}
	}
}

// What was asked ahead, refused or not, changes no answer.
func TestNothingIsKept(t *testing.T) {
	p, q := read(t, "interface I { } class A implements I { }"), read(t, "class I { } class A extends I { }")
	wrong := read(t, "class A extends A { }")
	for range 3 {
		checkTaken(t, "p", p)
		checkRefused(t, "wrong", wrong, api.ErrRing)
		checkTaken(t, "q", q)
		if _, ok := Super(p, "I"); ok || !Under(q, "A", "I") {
			t.Error("kept")
		}
	}
}
