package step

import (
	"reflect"
	"testing"

	"delver/api"
)

// roomy answers a copy whose lists have spare room, with items there that are wrong.
func roomy(p api.Program) api.Program {
	p.Classes = spare(p.Classes, api.Class{Name: "X"})
	for i := range p.Classes {
		c := &p.Classes[i]
		c.Ifaces, c.Fields, c.Methods = spare(c.Ifaces, "X"), spare(c.Fields, api.Field{Name: "int"}), spare(c.Methods, api.Method{Name: "h", Static: true})
		for j := range c.Methods {
			f := &c.Methods[j]
			f.Params, f.Code, f.Catches = spare(f.Params, typeOf("X")), spare(f.Code, api.Instr{Op: -1}), spare(f.Catches, api.Catch{Name: "Error", To: api.MaxCode})
		}
	}
	return p
}

// roomyInput answers a copy of an input with spare room; behind the heap's end stand objects that a reference may mean.
func roomyInput(in api.Input) api.Input {
	in.Args = spare(in.Args, at(0))
	in.Heap = spare(in.Heap, api.Obj{Type: typeOf("Object")})
	for i := range in.Heap[:cap(in.Heap)] {
		o := &in.Heap[:cap(in.Heap)][i]
		o.Slots = spare(o.Slots, at(0))
	}
	return in
}

// spare answers a copy of a list with three of what is wrong behind it.
func spare[T any](l []T, wrong T) []T {
	n := len(l)
	l = append(append(make([]T, 0, n+3), l...), wrong, wrong, wrong)
	return l[:n]
}

// lists answers each list in v, those in lists' spare room too.
func lists(v reflect.Value) []reflect.Value {
	var l []reflect.Value
	switch v.Kind() {
	case reflect.Struct:
		for i := range v.NumField() {
			l = append(l, lists(v.Field(i))...)
		}
	case reflect.Slice:
		v = v.Slice(0, v.Cap())
		l = append(l, v)
		for i := range v.Len() {
			l = append(l, lists(v.Index(i))...)
		}
	}
	return l
}

// unfolded answers a copy of all that lies in the memory of lists in values.
func unfolded(values ...any) []any {
	var l []any
	for _, v := range values {
		for _, list := range lists(reflect.ValueOf(v)) {
			items := reflect.MakeSlice(list.Type(), list.Len(), list.Len())
			reflect.Copy(items, list)
			l = append(l, items.Interface())
		}
	}
	return l
}

// checkApart holds that no two lists share memory.
func checkApart(t *testing.T, values ...any) {
	t.Helper()
	taken := map[uintptr]bool{}
	for _, v := range values {
		for _, list := range lists(reflect.ValueOf(v)) {
			for i := range list.Len() {
				at := list.Index(i).Addr().Pointer()
				for range list.Type().Elem().Size() {
					if taken[at] {
						t.Fatalf("two lists share memory: %v", list)
					}
					taken[at] = true
					at++
				}
			}
		}
	}
}

// question is what After and Begin are asked.
type question struct {
	asking
	n int
}

func (q question) roomy() question {
	q.p, q.in = roomy(q.p), roomyInput(q.in)
	return q
}

// answered is what the calls answer.
type answered struct {
	Begun, Behind api.Run
	E, F          api.Errno
}

func (q question) ask() answered {
	var a answered
	a.Begun, a.E = Begin(q.p, q.class, q.method, q.in)
	a.Behind, a.F = After(q.p, q.class, q.method, q.in, q.n)
	return a
}

func (a answered) told() string {
	return told(a.Begun) + " " + told(a.Behind) + " " + string(rune('0'+a.E)) + string(rune('0'+a.F))
}

// questions makes what may be asked: of runs that go on and that end, and of such as are refused.
func questions(t *testing.T) []question {
	t.Helper()
	var l []question
	for k, a := range askings(t, 4, 6, 4) {
		for _, n := range []int{k % 7, 5 + 2*k} {
			l = append(l, question{a, n})
		}
	}
	p := read(t, asked)
	for _, c := range [][2]string{{"nodes", "1 @0 @1 | Node @0 5 | int[] 1 2"}, {"two", "@0 @1 | Node @1 5 | Node @0 4"}, {"none", ""}, {"ring", ""}, {"none", "1"}, {"two", "@0 - | int[]"}, {"two", "- - | Node - 1"}, {"m", "-"}, {"X", ""}} {
		for _, n := range []int{0, 1, 2, 50, -1, 10001} {
			l = append(l, question{asking{p, "T", c[0], inputOf(c[1])}, n})
		}
	}
	deep := read(t, "class A { static s : A ; function t ( A ) int locals 2 { const 1 ; const 2 ; load 0 ; func A t ; pop ; pop ; ret ; } }")
	for n := range 20 {
		l = append(l, question{asking{deep, "A", "t", inputOf("@0 | A")}, 2 * n})
	}
	return append(l, question{asking{read(t, "class A { function t ( ) void locals 0 { pop ; } }"), "A", "t", api.Input{}}, 1})
}

// What lies behind a list's length is wrong in each list: whoever reads it answers otherwise.
func TestArgumentsStayAndNothingBehindThemIsRead(t *testing.T) {
	for _, q := range questions(t) {
		want := q.ask().told()
		r := q.roomy()
		before := unfolded(r.p, r.in)
		for range 2 {
			if got := r.ask().told(); got != want {
				t.Fatalf("%s, not %s: %+v", got, want, q)
			}
		}
		if !reflect.DeepEqual(unfolded(r.p, r.in), before) {
			t.Fatalf("%+v is changed", q)
		}
	}
}

func TestAnswersAreNewMemory(t *testing.T) {
	for _, q := range questions(t) {
		r := q.roomy()
		checkApart(t, r.p, r.in, r.ask(), r.ask())
	}
}

// Whoever writes into an answer changes nothing that was handed in, and no other list.
func TestWritingIntoAnswers(t *testing.T) {
	for _, q := range questions(t) {
		r := q.roomy()
		before, want := unfolded(r.p, r.in), q.ask().told()
		for _, list := range lists(reflect.ValueOf(r.ask())) {
			list.Clear()
		}
		if got := r.ask().told(); !reflect.DeepEqual(unfolded(r.p, r.in), before) || got != want {
			t.Fatalf("%s, not %s: %+v", got, want, q)
		}
	}
	// behind a list's end there is room for none but itself
	p := read(t, "class A { static s : int ; field x : int ; function t ( A ) int locals 2 { const 1 ; const 2 ; new A ; func A t ; add ; ret ; } }")
	r, _ := After(p, "A", "t", inputOf("@0 | A 7"), 11)
	want := told(r)
	for i := range r.Frames {
		_ = append(r.Frames[i].Locals, num(7), num(8), num(9))
		_ = append(r.Frames[i].Stack, num(7), num(8), num(9))
	}
	for i := range r.Heap {
		_ = append(r.Heap[i].Slots, num(7), num(8), num(9))
	}
	_, _ = append(r.Statics, num(7)), append(r.Heap, api.Obj{})
	if told(r) != want || Frames(r) != 3 {
		t.Error(told(r), want)
	}
}

// What was taken from a stack, the frames that went: nothing of them lies in an answer's spare room.
func TestNothingLiesBehindAnswers(t *testing.T) {
	for _, q := range questions(t) {
		r, _ := After(q.p, q.class, q.method, q.in, q.n)
		for _, list := range lists(reflect.ValueOf(r.Frames)) {
			for i := range list.Cap() {
				if _, is := list.Index(i).Interface().(api.Frame); is && i >= len(r.Frames) && !list.Index(i).IsZero() {
					t.Fatalf("%v lies behind the frames: %+v", list.Index(i), q)
				}
			}
		}
		for _, f := range r.Frames {
			for _, l := range [][]api.Val{f.Locals, f.Stack} {
				for _, v := range l[len(l):cap(l)] {
					if v != (api.Val{}) {
						t.Fatalf("%v lies behind %v: %+v", v, l, q)
					}
				}
			}
		}
	}
}

// R4: beside an error there is nothing.
func TestBesideAnErrorThereIsNothing(t *testing.T) {
	refused := 0
	for _, q := range questions(t) {
		a := q.ask()
		if a.E != api.OK && !isZero(a.Begun) || a.F != api.OK && !isZero(a.Behind) {
			t.Errorf("%s: %+v", a.told(), q)
		}
		if a.E != api.OK {
			refused++
		}
		if a.E != api.OK && a.F != a.E || a.E == api.OK && (a.F == api.ErrArg) != (q.n < 0 || q.n > 10000) {
			t.Errorf("%s: %+v", a.told(), q)
		}
	}
	if refused < 20 {
		t.Error(refused)
	}
}

// Fields that the chapter gives no meaning are zero: the value of a run that goes on, the frames of one that ended.
func TestFieldsWithoutMeaningAreZero(t *testing.T) {
	for _, q := range questions(t) {
		r, _ := After(q.p, q.class, q.method, q.in, q.n)
		if r.How == api.Runs && r.Value != (api.Val{}) || r.How != api.Runs && len(r.Frames) > 0 || r.How == api.Cut {
			t.Errorf("%s: %+v", told(r), q)
		}
	}
}

// nil and an empty list mean the same.
func TestEmptyListsAreTheSameAsNone(t *testing.T) {
	none := read(t, "class A { function t ( ) void locals 0 { new A ; pop ; func A u ; leave ; } function u ( ) void locals 0 { leave ; } }")
	empty := none
	empty.Classes = []api.Class{none.Classes[0]}
	c := &empty.Classes[0]
	c.Ifaces, c.Fields, c.Methods = []string{}, make([]api.Field, 0, 4), nil
	for _, f := range none.Classes[0].Methods {
		f.Params, f.Catches = []api.Type{}, make([]api.Catch, 0, 2)
		c.Methods = append(c.Methods, f)
	}
	for _, p := range []api.Program{none, empty} {
		for _, in := range []api.Input{{}, {Args: []api.Val{}, Heap: []api.Obj{}}, {Args: make([]api.Val, 0, 3), Heap: make([]api.Obj, 0, 3)}} {
			for n, want := range []string{"runs 0: 0 ;  > A.t 0 () ", "runs 1: 0 | A ;  > A.t 1 () @0", "runs 2: 0 | A ;  > A.t 2 () ", "runs 3: 0 | A ;  > A.t 2 ()  > A.u 0 () ", "runs 4: 0 | A ;  > A.t 3 () ", "returned 5: 0 | A ; "} {
				if r, e := After(p, "A", "t", in, n); told(r) != want || e != api.OK {
					t.Error(n, told(r), e)
				}
			}
		}
	}
	for _, slots := range [][]api.Val{nil, {}, make([]api.Val, 0, 4)} {
		in := api.Input{Args: valuesOf("@0"), Heap: []api.Obj{{Type: typeOf("int[]"), Slots: slots}}}
		r, e := After(read(t, "class A { function t ( int [ ] ) int locals 1 { load 0 ; len ; ret ; } }"), "A", "t", in, 9)
		if told(r) != "returned 3: 0 | int[] ; " || e != api.OK {
			t.Error(told(r), e)
		}
	}
}

// What was asked ahead, of one program or another, refused or not, changes no answer. Their names are the same.
func TestNothingIsKept(t *testing.T) {
	head := "class A { function t ( A ) int locals 1 { load 0 ; call A m ; ret ; } static s : int ; "
	l := [][2]string{
		{head + "field x : int ; method m ( ) int locals 1 { load 0 ; get A x ; ret ; } }", "returned 6: 4 | A 4 ; 0"},
		{head + "field x : int ; method m ( ) int locals 1 { load 0 ; get A x ; neg ; ret ; } }", "returned 7: -4 | A 4 ; 0"},
		{head + "field x : A ; method m ( ) int locals 1 { const 1 ; ret ; } }", ""},
		{head + "field x : int ; method m ( ) int locals 1 { new A ; get A x ; ret ; } }", "returned 6: 0 | A 4 | A 0 ; 0"},
		{head + "field x : int ; static r : A ; method m ( ) int locals 1 { const 1 ; const 0 ; div ; ret ; } }", "thrown 5: @1 | A 4 | NumError ; 0 -"},
		{head + "field x : int ; method m ( ) int locals 1 { const 1 ; const 0 ; div ; ret ; pop ; const 3 ; ret ; catch NumError 0 4 4 ; } }", "returned 9: 3 | A 4 | NumError ; 0"},
		{head + "field x : int ; method m ( ) int locals 2 { const 6 ; puts A s ; gets A s ; ret ; } }", "returned 7: 6 | A 4 ; 6"},
	}
	for range 3 {
		for _, c := range l {
			p := read(t, c[0])
			r, e := After(p, "A", "t", inputOf("@0 | A 4"), 50)
			if (e == api.OK) != (c[1] != "") || e == api.OK && told(r) != c[1] {
				t.Errorf("%s: %s, not %s (%d)", c[0], told(r), c[1], e)
			}
		}
	}
}

// One program, one input that is changed between two calls is another one.
func TestProgramsAndInputsThatChange(t *testing.T) {
	p := read(t, "class A { field x : int ; function t ( A ) int locals 1 { load 0 ; call A m ; ret ; } method m ( ) int locals 1 { load 0 ; get A x ; ret ; } } class B extends A { }")
	in := inputOf("@0 | A 4")
	ask := func(want string) {
		t.Helper()
		r, e := After(p, "A", "t", in, 50)
		got := told(r)
		if e != api.OK {
			got = e.Error()
		}
		if got != want {
			t.Errorf("%s, not %s", got, want)
		}
	}
	ask("returned 6: 4 | A 4 ; ")
	in.Heap[0].Slots[0] = num(7)
	ask("returned 6: 7 | A 7 ; ")
	in.Heap[0].Type = typeOf("B")
	ask("returned 6: 7 | B 7 ; ")
	p.Classes[1].Methods = []api.Method{{Name: "m", Ret: typeOf("int"), Locals: 1, Code: []api.Instr{{Op: api.OpConst, N: 9}, {Op: api.OpRet}}}}
	ask("returned 5: 9 | B 7 ; ")
	p.Classes[1].Methods[0].Code[0] = api.Instr{Op: api.OpNull}
	ask("type")
	p.Classes[1].Methods[0].Code[0] = api.Instr{Op: api.OpConst, N: 3}
	ask("returned 5: 3 | B 7 ; ")
	p.Classes[1].Super = ""
	ask("type")
	in.Heap[0].Type = typeOf("A")
	ask("returned 6: 7 | A 7 ; ")
	in.Args[0] = nobody
	ask("place")
	in.Heap = nil
	ask("thrown 2: @0 | NullError ; ")
}
