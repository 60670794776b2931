package heap

import (
	"math/rand/v2"
	"reflect"
	"slices"
	"testing"

	"delver/api"
)

// roomy answers a copy whose lists have spare room, with items there that are wrong.
func roomy(p api.Program) api.Program {
	p.Classes = spare(p.Classes, api.Class{Name: "X"})
	for i := range p.Classes {
		c := &p.Classes[i]
		c.Ifaces, c.Fields, c.Methods = spare(c.Ifaces, "X"), spare(c.Fields, api.Field{Name: "int"}), spare(c.Methods, api.Method{Name: "h", Static: true})
		for j := range c.Methods {
			f := &c.Methods[j]
			f.Params, f.Code, f.Catches = spare(f.Params, typeOf("null")), spare(f.Code, api.Instr{Op: -1}), spare(f.Catches, api.Catch{Name: "int"})
		}
	}
	return p
}

// roomyHeap answers a copy of a heap with spare room; behind its end stand objects that a reference may mean.
func roomyHeap(h []api.Obj) []api.Obj {
	h = spare(h, api.Obj{Type: typeOf("Object")})
	for i := range h[:cap(h)] {
		o := &h[:cap(h)][i]
		o.Slots = roomyValues(o.Slots)
	}
	return h
}

// roomyValues answers a copy of values with a reference to the first object behind them.
func roomyValues(l []api.Val) []api.Val { return spare(l, at(0)) }

// spare answers a copy of a list with three of what is wrong behind it.
func spare[T any](l []T, wrong T) []T {
	n := len(l)
	l = append(append(make([]T, 0, n+3), l...), wrong, wrong, wrong)
	return l[:n]
}

// lists answers each list in v, those in lists' spare room too.
func lists(v reflect.Value) []reflect.Value {
	var l []reflect.Value
	switch v.Kind() {
	case reflect.Struct:
		for i := range v.NumField() {
			l = append(l, lists(v.Field(i))...)
		}
	case reflect.Slice:
		v = v.Slice(0, v.Cap())
		l = append(l, v)
		for i := range v.Len() {
			l = append(l, lists(v.Index(i))...)
		}
	}
	return l
}

// unfolded answers a copy of all that lies in the memory of lists in values.
func unfolded(values ...any) []any {
	var l []any
	for _, v := range values {
		for _, list := range lists(reflect.ValueOf(v)) {
			items := reflect.MakeSlice(list.Type(), list.Len(), list.Len())
			reflect.Copy(items, list)
			l = append(l, items.Interface())
		}
	}
	return l
}

// checkApart holds that no two lists share memory.
func checkApart(t *testing.T, values ...any) {
	t.Helper()
	taken := map[uintptr]bool{}
	for _, v := range values {
		for _, list := range lists(reflect.ValueOf(v)) {
			for i := range list.Len() {
				at := list.Index(i).Addr().Pointer()
				for range list.Type().Elem().Size() {
					if taken[at] {
						t.Fatalf("two lists share memory: %v", list)
					}
					taken[at] = true
					at++
				}
			}
		}
	}
}

// given is a program, and what is asked of it.
type given struct {
	p     api.Program
	q     question
	class string
	of    api.Type
	n     int
}

// roomy answers a copy whose lists have spare room.
func (g given) roomy() given {
	g.p, g.q.in.Heap, g.q.in.Args = roomy(g.p), roomyHeap(g.q.in.Heap), roomyValues(g.q.in.Args)
	return g
}

// answered is what the calls answer.
type answered struct {
	Next, More []api.Obj
	At, Place  int
	E, F, Told api.Errno
	Met        []bool
	Is         []bool
}

// ask asks each call.
func (g given) ask() answered {
	var a answered
	h := g.q.in.Heap
	a.Next, a.At, a.E = New(g.p, h, g.class)
	a.More, a.Place, a.F = Row(h, g.of, g.n)
	a.Met = Reached(h, g.q.in.Args)
	a.Told = Check(g.p, g.q.class, g.q.method, g.q.in, g.q.objects, g.q.long)
	for n := -2; n < len(h)+2; n++ {
		for _, v := range []api.Val{num(n), at(n)} {
			a.Is = append(a.Is, Is(g.p, h, v, g.of), Is(g.p, h, v, typeOf(g.class)))
		}
	}
	return a
}

// isAs tells whether two answers are the same.
func (a answered) isAs(b answered) bool {
	return isSame(a.Next, b.Next) && isSame(a.More, b.More) && a.At == b.At && a.Place == b.Place && a.E == b.E && a.F == b.F && a.Told == b.Told &&
		slices.Equal(a.Met, b.Met) && slices.Equal(a.Is, b.Is)
}

// allGiven makes what the calls may be asked: of sound programs and of such as are refused, inputs that are right and wrong.
func allGiven(t *testing.T) []given {
	t.Helper()
	m := maker{rand.New(rand.NewPCG(9, 5))}
	var l []given
	for range 30 {
		p := m.sound(6)
		for range 10 {
			g := given{p: p, q: m.question(p, plainOf(p)), class: m.one("C0", "C1", "C2", "Object", "X"), of: typeOf(m.one("int[]", "C0[]", "C1[]", "int", "C0", "Object")), n: m.IntN(9) - 1}
			if m.coin() {
				m.bend(&g.q)
			}
			l = append(l, g)
		}
	}
	for _, p := range append(refusedPrograms(t), read(t, "class A { function f ( ) void locals 0 { pop ; } }")) {
		l = append(l, given{p: p, q: question{"A", "f", api.Input{Args: valuesOf("@0 -"), Heap: heapOf("A @0 1 | int[] @0")}, 3, 3}, class: "A", of: typeOf("A[]"), n: 2})
	}
	return l
}

// What lies behind a list's length is wrong in each list: whoever reads it answers otherwise.
func TestArgumentsStayAndNothingBehindThemIsRead(t *testing.T) {
	for _, g := range allGiven(t) {
		want := g.ask()
		r := g.roomy()
		before := unfolded(r.p, r.q.in)
		for range 2 {
			if got := r.ask(); !got.isAs(want) {
				t.Fatalf("%+v: %+v, not %+v", g, got, want)
			}
		}
		if !reflect.DeepEqual(unfolded(r.p, r.q.in), before) {
			t.Fatalf("%+v is changed", g)
		}
	}
}

func TestAnswersAreNewMemory(t *testing.T) {
	for _, g := range allGiven(t) {
		r := g.roomy()
		checkApart(t, r.p, r.q.in, r.ask(), r.ask())
	}
}

// Whoever writes into an answer, or behind it, changes nothing that was handed in, and no other list.
func TestWritingIntoAnswers(t *testing.T) {
	for _, g := range allGiven(t) {
		r := g.roomy()
		before, want := unfolded(r.p, r.q.in), g.ask()
		for _, list := range lists(reflect.ValueOf(r.ask())) {
			list.Clear()
		}
		if !reflect.DeepEqual(unfolded(r.p, r.q.in), before) || !r.ask().isAs(want) {
			t.Fatalf("%+v is changed", g)
		}
	}
	p := read(t, "class A { field x : int ; field y : A ; }")
	next, _, _ := New(p, heapOf("A 1 - | A 2 -"), "A")
	for i := range next {
		_ = append(next[i].Slots, num(7), num(8), num(9))
	}
	if !isSame(next, heapOf("A 1 - | A 2 - | A 0 -")) {
		t.Error(next)
	}
}

// R4: beside an error there is nothing.
func TestBesideAnErrorThereIsNothing(t *testing.T) {
	refused := 0
	for _, g := range allGiven(t) {
		a := g.ask()
		if a.E != api.OK && (len(a.Next) > 0 || a.At != 0) || a.F != api.OK && (len(a.More) > 0 || a.Place != 0) {
			t.Errorf("%+v: %+v", g, a)
		}
		if a.E != api.OK && a.F != api.OK {
			refused++
		}
	}
	if refused < 20 {
		t.Error(refused)
	}
}

// nil and an empty list mean the same.
func TestEmptyListsAreTheSameAsNone(t *testing.T) {
	none := read(t, "class A { function f ( ) void locals 0 { leave ; } }")
	empty := none
	empty.Classes = []api.Class{none.Classes[0]}
	empty.Classes[0].Ifaces, empty.Classes[0].Fields = []string{}, make([]api.Field, 0, 4)
	empty.Classes[0].Methods = []api.Method{{Name: "f", Static: true, Ret: typeOf("void"), Params: []api.Type{}, Code: none.Classes[0].Methods[0].Code, Catches: []api.Catch{}}}
	for _, p := range []api.Program{none, empty} {
		for _, h := range [][]api.Obj{nil, {}, make([]api.Obj, 0, 4)} {
			checkNew(t, p, h, "A", "A")
			for _, l := range [][]api.Val{nil, {}, make([]api.Val, 0, 4)} {
				if e := Check(p, "A", "f", api.Input{Args: l, Heap: h}, 0, 0); e != api.OK {
					t.Error(e)
				}
				if len(Reached(h, l)) != 0 || !Is(p, []api.Obj{{Type: typeOf("A"), Slots: l}}, at(0), typeOf("A")) {
					t.Error(h, l)
				}
			}
		}
	}
	for _, slots := range [][]api.Val{nil, {}, make([]api.Val, 0, 4)} {
		h := []api.Obj{{Type: typeOf("A"), Slots: slots}}
		checkNew(t, none, h, "A", "A")
		if next, at, e := Row(h, typeOf("int[]"), 0); !isSame(next, heapOf("A | int[]")) || at != 1 || e != api.OK {
			t.Error(next, at, e)
		}
	}
}

// What was asked ahead, of one program or another, refused or not, changes no answer. Their classes and methods have the
// same names.
func TestNothingIsKept(t *testing.T) {
	f := "function f ( A ) void locals 1 { leave ; } } "
	l := []struct {
		text, heap string
		e          api.Errno
		is         bool
	}{
		{"class A { field x : A ; " + f + "class B extends A { }", "B @0", api.OK, true},
		{"class A { " + f + "class B extends A { field x : A ; }", "B @0", api.OK, true},
		{"class A { field x : int ; " + f + "class B extends A { }", "B @0", api.ErrType, true},
		{"class A { field x : A ; " + f + "class B { field x : A ; }", "B @0", api.ErrType, false},
		{"class A { field x : A ; method f ( A ) void locals 2 { leave ; } } class B extends A { }", "B @0", api.ErrNone, true},
		{"class A { field x : X ; " + f + "class B extends A { }", "B @0", api.ErrNone, false},
		{"class A { field x : A ; function f ( A ) void locals 1 { pop ; } } class B extends A { }", "B @0", api.ErrStack, true},
		{"class A { field x : A ; " + f + "class B extends A { }", "B @1 | B -", api.OK, true},
		{"class A { field x : A ; " + f + "class B extends A { }", "B @0 | B -", api.ErrPlace, true},
	}
	for range 3 {
		for _, c := range l {
			p, h := read(t, c.text), heapOf(c.heap)
			if e := Check(p, "A", "f", api.Input{Args: []api.Val{at(0)}, Heap: h}, 2, 0); e != c.e {
				t.Errorf("%s: %d, not %d", c.text, e, c.e)
			}
			if Is(p, h, at(0), typeOf("A")) != c.is {
				t.Errorf("%s: not %v", c.text, c.is)
			}
			if e := plainCheck(p, "A", "f", api.Input{Args: []api.Val{at(0)}, Heap: h}, 2, 0); e != c.e {
				t.Errorf("%s: plainly %d, not %d", c.text, e, c.e)
			}
		}
	}
}

// One program, one heap that is changed between two calls is another one.
func TestProgramsAndHeapsThatChange(t *testing.T) {
	p := read(t, "class A { field x : A ; function f ( A ) void locals 1 { leave ; } } class B extends A { }")
	in := api.Input{Args: []api.Val{at(0)}, Heap: heapOf("B @0")}
	ask := func(e api.Errno, is bool, fresh string) {
		t.Helper()
		if got := Check(p, "A", "f", in, 1, 1); got != e {
			t.Errorf("%d, not %d", got, e)
		}
		if Is(p, in.Heap, at(0), typeOf("A")) != is {
			t.Errorf("not %v", is)
		}
		checkNew(t, p, in.Heap, "B", fresh)
	}
	ask(api.OK, true, "B -")
	p.Classes[0].Fields[0].Type = typeOf("int")
	ask(api.ErrType, true, "B 0")
	in.Heap[0].Slots[0] = num(0)
	ask(api.OK, true, "B 0")
	p.Classes[1].Super = ""
	ask(api.ErrType, false, "B")
	in.Heap[0] = api.Obj{Type: typeOf("A"), Slots: in.Heap[0].Slots}
	ask(api.OK, true, "B")
	p.Classes[0].Methods[0].Static = false
	p.Classes[0].Methods[0].Locals = 2
	ask(api.ErrNone, true, "B")
	p.Classes[0].Methods[0].Static = true
	in.Heap[0].Type = api.Type{Kind: api.IntRow}
	ask(api.ErrType, false, "B")
	in.Heap[0].Slots = append(in.Heap[0].Slots, num(1))
	ask(api.ErrLen, false, "B")
}
