package heap

import (
	"slices"
	"strconv"
	"strings"
	"testing"

	"delver/api"
	"delver/flow"
	"delver/parse"
)

// read answers the program that a text stands for.
func read(t *testing.T, text string) api.Program {
	t.Helper()
	p, at, e := parse.Program([]byte(text))
	if e != api.OK {
		t.Fatalf("%d at %d in %q", e, at, text[at:])
	}
	return p
}

// typeOf answers the type that a word stands for: void, null, nothing, int, int[], a name, a name with [] behind it.
func typeOf(word string) api.Type {
	for kind, w := range []string{api.Void: "void", api.Int: "int", api.IntRow: "int[]", api.Null: "null", api.Nothing: "nothing"} {
		if w != "" && w == word {
			return api.Type{Kind: kind}
		}
	}
	if name, row := strings.CutSuffix(word, "[]"); row {
		return api.Type{Kind: api.RefRow, Name: name}
	}
	return api.Type{Kind: api.Ref, Name: word}
}

func num(n int) api.Val { return api.Val{N: n} }

func at(n int) api.Val { return api.Val{IsRef: true, N: n} }

var null = at(-1)

// valuesOf answers the values that a text stands for: 7 is an int, @7 a reference, - null.
func valuesOf(text string) []api.Val {
	var l []api.Val
	for _, word := range strings.Fields(text) {
		digits, ref := strings.CutPrefix(word, "@")
		n, e := strconv.Atoi(digits)
		switch {
		case word == "-":
			l = append(l, null)
		case e != nil:
			panic(word)
		default:
			l = append(l, api.Val{IsRef: ref, N: n})
		}
	}
	return l
}

// heapOf answers the heap that a text stands for: of each object its type and its slots, a bar between two.
func heapOf(text string) []api.Obj {
	if text == "" {
		return nil
	}
	var h []api.Obj
	for part := range strings.SplitSeq(text, "|") {
		word, slots, _ := strings.Cut(strings.TrimSpace(part), " ")
		h = append(h, api.Obj{Type: typeOf(word), Slots: valuesOf(slots)})
	}
	return h
}

// isSame tells whether two heaps are the same, object by object.
func isSame(a, b []api.Obj) bool {
	return slices.EqualFunc(a, b, func(x, y api.Obj) bool { return x.Type == y.Type && slices.Equal(x.Slots, y.Slots) })
}

// standingNames are the names of the classes that always stand.
const standingNames = "Object Error NullError RangeError CastError NumError SizeError DepthError"

// plainModel is what the chapter says of a sound program, worked out in the plainest way.
type plainModel struct {
	classes map[string]api.Class
	own     map[string]bool
	above   map[[2]string]bool // the first has the second above it
}

func plainOf(p api.Program) plainModel {
	m := plainModel{map[string]api.Class{}, map[string]bool{}, map[[2]string]bool{}}
	for _, name := range strings.Fields(standingNames) {
		c := api.Class{Name: name}
		if name != "Object" && name != "Error" {
			c.Super = "Error"
		}
		m.classes[name] = c
	}
	for _, c := range p.Classes {
		m.classes[c.Name], m.own[c.Name] = c, true
	}
	for name, c := range m.classes {
		m.above[[2]string{name, name}], m.above[[2]string{name, "Object"}] = true, true
		for _, up := range append([]string{c.Super}, c.Ifaces...) {
			m.above[[2]string{name, up}] = up != ""
		}
	}
	for range len(m.classes) {
		for x := range m.classes {
			for y := range m.classes {
				for z := range m.classes {
					if m.above[[2]string{x, y}] && m.above[[2]string{y, z}] {
						m.above[[2]string{x, z}] = true
					}
				}
			}
		}
	}
	return m
}

// slots answers the types of the slots of a class; false, if there is no such class.
func (m plainModel) slots(name string) ([]api.Type, bool) {
	c, ok := m.classes[name]
	if !ok || c.Iface {
		return nil, false
	}
	l, _ := m.slots(c.Super)
	for _, f := range c.Fields {
		if !f.Static {
			l = append(l, f.Type)
		}
	}
	return l, true
}

// is tells whether v is a value of a type.
func (m plainModel) is(h []api.Obj, v api.Val, t api.Type) bool {
	if t.Kind == api.Int {
		return v.IsRef == false && v.N >= -2147483648 && v.N <= 2147483647
	}
	if t.Kind != api.Ref && t.Kind != api.IntRow && t.Kind != api.RefRow || !v.IsRef {
		return false
	}
	if v.N < 0 || v.N >= len(h) {
		return v.N == -1
	}
	o := h[v.N].Type
	if o.Kind != t.Kind {
		return false
	}
	return t.Kind == api.IntRow || t.Kind == api.RefRow && o.Name == t.Name || t.Kind == api.Ref && m.above[[2]string{o.Name, t.Name}]
}

// reachedPlainly tells of each object whether it is reached, by going on until nothing is new.
func reachedPlainly(h []api.Obj, roots []api.Val) []bool {
	l := make([]bool, len(h))
	mark := func(values []api.Val) {
		for _, v := range values {
			if v.IsRef && v.N >= 0 && v.N < len(h) {
				l[v.N] = true
			}
		}
	}
	mark(roots)
	for range h {
		for i, o := range h {
			if l[i] {
				mark(o.Slots)
			}
		}
	}
	return l
}

// isInput tells whether an object is one of an input.
func (m plainModel) isInput(h []api.Obj, o api.Obj) bool {
	var types []api.Type
	switch {
	case o.Type.Kind == api.Ref && m.own[o.Type.Name]:
		l, ok := m.slots(o.Type.Name)
		if !ok {
			return false
		}
		types = l
	case o.Type == typeOf("int[]"):
		for range o.Slots {
			types = append(types, typeOf("int"))
		}
	case o.Type.Kind == api.RefRow && m.classes[o.Type.Name].Name != "":
		for range o.Slots {
			types = append(types, typeOf(o.Type.Name))
		}
	default:
		return false
	}
	if len(types) != len(o.Slots) {
		return false
	}
	for i, v := range o.Slots {
		if !m.is(h, v, types[i]) {
			return false
		}
	}
	return true
}

// faults answers each error of Check that an input of a sound program has, the first one ahead.
func (m plainModel) faults(class, method string, in api.Input, objects, long int) []api.Errno {
	at := slices.IndexFunc(m.classes[class].Methods, func(f api.Method) bool { return f.Name == method && f.Static })
	if at < 0 || !m.own[class] {
		return []api.Errno{api.ErrNone}
	}
	var l []api.Errno
	add := func(bad bool, e api.Errno) {
		if bad && !slices.Contains(l, e) {
			l = append(l, e)
		}
	}
	params := m.classes[class].Methods[at].Params
	add(objects < 0 || objects > 3 || long < 0 || long > 3, api.ErrArg)
	add(len(in.Args) != len(params) || len(in.Heap) > objects, api.ErrLen)
	for _, o := range in.Heap {
		add((o.Type.Kind == api.IntRow || o.Type.Kind == api.RefRow) && len(o.Slots) > long, api.ErrLen)
	}
	for i, v := range in.Args {
		add(i < len(params) && !m.is(in.Heap, v, params[i]), api.ErrType)
	}
	for _, o := range in.Heap {
		add(!m.isInput(in.Heap, o), api.ErrType)
	}
	add(slices.Contains(reachedPlainly(in.Heap, in.Args), false), api.ErrPlace)
	return l
}

// plainCheck answers what Check is to answer, of a program that might not be sound.
func plainCheck(p api.Program, class, method string, in api.Input, objects, long int) api.Errno {
	if _, _, _, e := flow.Check(p); e != api.OK {
		return e
	}
	return append(plainOf(p).faults(class, method, in, objects, long), api.OK)[0]
}
