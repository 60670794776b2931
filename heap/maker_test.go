package heap

import (
	"math/rand/v2"
	"slices"
	"strconv"
	"testing"

	"delver/api"
	"delver/flow"
)

// maker makes programs, heaps and inputs of all sorts.
type maker struct {
	*rand.Rand
}

func (m maker) coin() bool { return m.IntN(2) == 0 }

func (m maker) one(l ...string) string { return l[m.IntN(len(l))] }

// typed makes a type of a field, a parameter.
func (m maker) typed(names []string) api.Type {
	switch m.IntN(6) {
	case 0:
		return typeOf("int")
	case 1:
		return typeOf("int[]")
	case 2:
		return typeOf(m.one(names...) + "[]")
	}
	return typeOf(m.one(names...))
}

// sound makes a sound program: each class comes of such as were made ahead of it, and then they are mixed.
func (m maker) sound(most int) api.Program {
	n := 1 + m.IntN(most)
	names := []string{"Object", "Error", "NumError"}
	for k := range n {
		names = append(names, "C"+strconv.Itoa(k), "C"+strconv.Itoa(k))
	}
	supers, ifaces := []string{"", "", "Object", "Error", "NumError"}, []string{}
	var p api.Program
	for k := range n {
		c := api.Class{Name: "C" + strconv.Itoa(k), Iface: k > 0 && m.IntN(4) == 0}
		if len(ifaces) > 0 {
			for range m.IntN(3) {
				c.Ifaces = append(c.Ifaces, m.one(ifaces...))
			}
		}
		if c.Iface {
			ifaces = append(ifaces, c.Name)
		} else {
			c.Super = m.one(supers...)
			supers = append(supers, c.Name, c.Name, c.Name)
			c.Fields, c.Methods = m.fields(c.Name, names), m.methods(c.Name, names)
		}
		p.Classes = append(p.Classes, c)
	}
	m.Shuffle(n, func(i, j int) { p.Classes[i], p.Classes[j] = p.Classes[j], p.Classes[i] })
	return p
}

func (m maker) fields(class string, names []string) []api.Field {
	var l []api.Field
	for k := range m.IntN(4) {
		l = append(l, api.Field{Name: "x" + strconv.Itoa(k) + "of" + class, Type: m.typed(names), Static: m.IntN(4) == 0})
	}
	return l
}

// methods makes methods of names that no other class has, but for one that all have.
func (m maker) methods(class string, names []string) []api.Method {
	leave := []api.Instr{{Op: api.OpLeave}}
	void := typeOf("void")
	l := []api.Method{{Name: "g", Ret: void, Locals: 1, Code: leave}}
	if m.coin() {
		l = append(l, api.Method{Name: "f", Static: true, Ret: void, Code: leave})
	}
	for k := range m.IntN(4) {
		f := api.Method{Name: "f" + strconv.Itoa(k) + "of" + class, Static: m.IntN(5) > 0, Ret: void, Locals: 1 + api.MaxParams, Code: leave}
		for range m.IntN(api.MaxParams + 1) {
			f.Params = append(f.Params, m.typed(names))
		}
		l = append(l, f)
	}
	return l
}

// value makes a value: most often one of the type, if one is found soon.
func (m maker) value(model plainModel, h []api.Obj, of api.Type) api.Val {
	v := null
	for range 20 {
		v = at(m.IntN(len(h)+2) - 1)
		switch {
		case of.Kind == api.Int && m.IntN(9) > 0:
			edges := [...]int{api.Least, -1, 0, 1, 2, api.Most, api.Least - 1, api.Most + 1}
			v = num(edges[m.IntN(len(edges)-m.IntN(2)*2)])
		case m.IntN(30) == 0:
			v = num(m.IntN(3) - 1)
		case m.IntN(30) == 0:
			v = at(m.IntN(9) - 4)
		}
		if model.is(h, v, of) {
			break
		}
	}
	return v
}

// heap makes a heap of such objects, of many types: first their types, then what stands in them.
func (m maker) heap(model plainModel, n int, wants []api.Type) []api.Obj {
	h := make([]api.Obj, n)
	for i := range h {
		h[i].Type = m.objectType(model, wants)
		if i > 0 && m.IntN(4) == 0 {
			h[i].Type = h[i-1].Type
		}
	}
	for i := range h {
		h[i].Slots = m.slots(model, h, h[i].Type)
	}
	return h
}

// objectType makes the type of an object, most often one that is wanted.
func (m maker) objectType(model plainModel, wants []api.Type) api.Type {
	names := []string{"Object", "NumError", "X"}
	for name := range model.own {
		names = append(names, name, name, name)
	}
	slices.Sort(names)
	of := m.typed(names)
	if len(wants) > 0 && m.IntN(5) > 0 {
		of = wants[m.IntN(len(wants))]
	}
	if of.Kind == api.Ref {
		under := []string{of.Name}
		for _, name := range names {
			if model.above[[2]string{name, of.Name}] {
				under = append(under, name)
			}
		}
		of.Name = m.one(under...)
	}
	if m.IntN(60) == 0 {
		of = api.Type{Kind: m.IntN(10) - 1, Name: m.one(names...)}
	}
	return of
}

// slots makes the slots of an object of a type, most often as many as there have to be.
func (m maker) slots(model plainModel, h []api.Obj, of api.Type) []api.Val {
	var types []api.Type
	switch of.Kind {
	case api.IntRow:
		types = slices.Repeat([]api.Type{typeOf("int")}, m.IntN(4))
	case api.RefRow:
		types = slices.Repeat([]api.Type{typeOf(of.Name)}, m.IntN(4))
	default:
		types, _ = model.slots(of.Name)
	}
	if m.IntN(40) == 0 {
		types = append(types, typeOf("int"))
	}
	if m.IntN(40) == 0 && len(types) > 0 {
		types = types[1:]
	}
	var l []api.Val
	for _, t := range types {
		l = append(l, m.value(model, h, t))
	}
	return l
}

// question is what Check is asked.
type question struct {
	class, method string
	in            api.Input
	objects, long int
}

// question makes a question: of a method that there is, most often, and of an input for it.
func (m maker) question(p api.Program, model plainModel) question {
	q := question{class: m.one("C0", "C1", "Object"), method: m.one("f", "g", "h"), objects: 2 + m.IntN(2), long: 2 + m.IntN(2)}
	var f api.Method
	for _, k := range m.Perm(len(p.Classes)) {
		for _, g := range p.Classes[k].Methods {
			if g.Static && len(g.Params) > len(f.Params) && m.IntN(4) > 0 {
				f, q.class, q.method = g, p.Classes[k].Name, g.Name
			}
		}
	}
	wants := slices.Clone(f.Params)
	for _, t := range wants {
		l, _ := model.slots(t.Name)
		wants = append(wants, l...)
	}
	wants = slices.DeleteFunc(wants, func(t api.Type) bool { return t.Kind == api.Int })
	q.in.Heap = m.heap(model, m.IntN(q.objects+1), wants)
	for _, t := range f.Params {
		q.in.Args = append(q.in.Args, m.value(model, q.in.Heap, t))
	}
	for m.IntN(4) > 0 && slices.Contains(reachedPlainly(q.in.Heap, q.in.Args), false) {
		q.in.Heap = q.in.Heap[:len(q.in.Heap)-1]
	}
	return q
}

// bend changes a question in one thing.
func (m maker) bend(q *question) {
	switch m.IntN(9) {
	case 0:
		q.objects = m.IntN(6) - 1
	case 1:
		q.long = m.IntN(6) - 1
	case 2:
		q.class = m.one("C0", "C1", "Object", "NumError", "X", "")
	case 3:
		q.method = m.one("f", "g", "X", "")
	case 4:
		q.in.Args = append(q.in.Args, null)
	case 5:
		if len(q.in.Args) > 0 {
			q.in.Args[m.IntN(len(q.in.Args))] = api.Val{IsRef: m.IntN(3) > 0, N: m.IntN(6) - 2}
		}
	case 6:
		q.in.Heap = append(q.in.Heap, api.Obj{Type: typeOf("int[]")})
	default:
		if len(q.in.Heap) > 0 {
			o := &q.in.Heap[m.IntN(len(q.in.Heap))]
			o.Slots = append(o.Slots, api.Val{IsRef: m.coin(), N: m.IntN(3) - 1})
		}
	}
}

// checkSound fails, if a program is not sound.
func checkSound(t *testing.T, p api.Program) {
	t.Helper()
	if class, method, at, e := flow.Check(p); e != api.OK {
		t.Fatalf("%d at %d of %s of %s: %+v", e, at, method, class, p)
	}
}

func TestRandomInputsAsPlain(t *testing.T) {
	m := maker{rand.New(rand.NewPCG(9, 1))}
	seen := map[api.Errno]int{}
	full := 0
	for range 120 {
		p := m.sound(7)
		checkSound(t, p)
		model := plainOf(p)
		for range 100 {
			q := m.question(p, model)
			for range m.IntN(3) * m.IntN(2) {
				m.bend(&q)
			}
			want := append(model.faults(q.class, q.method, q.in, q.objects, q.long), api.OK)[0]
			if e := Check(p, q.class, q.method, q.in, q.objects, q.long); e != want {
				t.Fatalf("%+v of %+v: %d, not %d", q, p, e, want)
			}
			seen[want]++
			if want == api.OK && len(q.in.Heap) > 1 {
				full++
			}
		}
	}
	for _, e := range []api.Errno{api.OK, api.ErrNone, api.ErrArg, api.ErrLen, api.ErrType, api.ErrPlace} {
		if seen[e] < 200 {
			t.Errorf("%d is answered %d times", e, seen[e])
		}
	}
	if len(seen) != 6 || full < 200 {
		t.Error(seen, full)
	}
}

func TestRandomValuesAsPlain(t *testing.T) {
	m := maker{rand.New(rand.NewPCG(9, 2))}
	seen := map[bool]int{}
	for range 60 {
		p := m.sound(api.MaxClasses)
		model := plainOf(p)
		h := m.heap(model, 6, nil)
		types := []api.Type{typeOf("int"), typeOf("int[]"), typeOf("null"), typeOf("Object[]"), typeOf("X"), typeOf("X[]"), typeOf("Error")}
		for _, c := range p.Classes {
			types = append(types, typeOf(c.Name), typeOf(c.Name+"[]"))
		}
		for _, of := range types {
			for n := -2; n < len(h)+2; n++ {
				for _, v := range []api.Val{num(n), at(n)} {
					want := model.is(h, v, of)
					if Is(p, h, v, of) != want {
						t.Fatalf("%v of %v in %v: not %v: %+v", v, of, h, want, p)
					}
					seen[want]++
				}
			}
		}
	}
	if seen[true] < 2000 || seen[false] < 2000 {
		t.Error(seen)
	}
}

func TestRandomHeapsReachedAsPlain(t *testing.T) {
	m := maker{rand.New(rand.NewPCG(9, 3))}
	for k := range 4000 {
		n := k % 9
		h := make([]api.Obj, n)
		some := func() []api.Val {
			var l []api.Val
			for range m.IntN(3) {
				l = append(l, api.Val{IsRef: m.IntN(4) > 0, N: m.IntN(n+3) - 2})
			}
			return l
		}
		for i := range h {
			h[i] = api.Obj{Type: api.Type{Kind: m.IntN(9)}, Slots: some()}
		}
		roots := some()
		if got, want := Reached(h, roots), reachedPlainly(h, roots); !slices.Equal(got, want) {
			t.Fatalf("%v of %v: %v, not %v", roots, h, got, want)
		}
	}
}

// P9.3: what is new is of its type, and of each that is above it; what stands in it is of its slots' types.
func TestWhatIsNewIsOfItsType(t *testing.T) {
	m := maker{rand.New(rand.NewPCG(9, 4))}
	for range 60 {
		p := m.sound(api.MaxClasses)
		model := plainOf(p)
		h := m.heap(model, m.IntN(4), nil)
		for name := range model.classes {
			next, at, e := New(p, h, name)
			types, is := model.slots(name)
			if !is {
				if e != api.ErrNone {
					t.Error(name, e)
				}
				continue
			}
			checkIsNew(t, p, h, next, at, typeOf(name))
			for above := range model.classes {
				if Is(p, next, api.Val{IsRef: true, N: at}, typeOf(above)) != model.above[[2]string{name, above}] {
					t.Error(name, above)
				}
			}
			if len(next[at].Slots) != len(types) {
				t.Error(name, next[at])
			}
			for i, v := range next[at].Slots {
				if !Is(p, next, v, types[i]) {
					t.Error(name, i, v)
				}
			}
			h = next
		}
		for _, of := range []api.Type{typeOf("int[]"), typeOf("Object[]"), typeOf("C0[]"), typeOf("X[]"), {Kind: api.RefRow}, {Kind: api.IntRow, Name: "C0"}} {
			for n := range api.MaxRow + 1 {
				next, at, _ := Row(h, of, n)
				checkIsNew(t, p, h, next, at, of)
				for _, v := range next[at].Slots {
					if !Is(p, next, v, element(of)) {
						t.Error(of, v)
					}
				}
				h = next
			}
		}
	}
}

// checkIsNew holds that a new object is of its type, behind those that were there.
func checkIsNew(t *testing.T, p api.Program, h, next []api.Obj, at int, of api.Type) {
	t.Helper()
	v := api.Val{IsRef: true, N: at}
	if at != len(h) || len(next) != at+1 || !isSame(next[:at], h) || next[at].Type != of || !Is(p, next, v, of) || Is(p, h, v, of) {
		t.Fatalf("%v: %v at %d, behind %v", of, next, at, h)
	}
}
