package step

import (
	"math/rand/v2"
	"slices"
	"strings"
	"testing"

	"delver/api"
	"delver/flow"
	"delver/layout"
	"delver/parse"
)

// maker makes sound programs that do all sorts of things, and inputs for them.
type maker struct {
	*rand.Rand
	p      api.Program // without the bodies that are still to be made
	model  plainModel
	types  []string // of the locals of the method that is made
	code   []api.Instr
	caught []api.Catch
	ret    string
}

func (m *maker) one(l ...string) string { return l[m.IntN(len(l))] }

func (m *maker) coin() bool { return m.IntN(2) == 0 }

// bodiless is a program in which a body of just leave stands for one that is to be made.
const bodiless = `
class T { static s : int ; static k : Kid ;
	function t0 ( int , Base ) int locals 5 { leave ; } function t1 ( Kid , int [ ] ) Base locals 5 { leave ; } function t2 ( Base , Base [ ] , int ) int locals 6 { leave ; } function t3 ( Object , Has ) void locals 5 { leave ; } }
interface Has { method f ( int ) int ; }
class Base { field x : int ; field next : Base ; static last : Base ; static row : int [ ] ; method g ( Base ) Base locals 4 { leave ; } method v ( ) void locals 3 { leave ; } function u ( int , int ) int locals 4 { leave ; } }
class Kid extends Base implements Has { field r : int [ ] ; field l : Base [ ] ; method f ( int ) int locals 4 { leave ; } method v ( ) void locals 3 { leave ; } }
class Grand extends Kid { field o : Object ; method f ( int ) int locals 4 { leave ; } method g ( Base ) Base locals 4 { leave ; } }
class Side implements Has { field h : Has ; method f ( int ) int locals 3 { leave ; } function z ( ) Oops locals 2 { leave ; } }
class Oops extends RangeError { field why : int ; }
`

func (m *maker) add(word string, rest ...any) int {
	op, ok := parse.Op(word)
	if !ok {
		panic(word)
	}
	i := api.Instr{Op: op}
	for _, x := range rest {
		switch x := x.(type) {
		case int:
			i.N = x
		case string:
			if i.A == "" {
				i.A = x
			} else {
				i.B = x
			}
		}
	}
	m.code = append(m.code, i)
	return len(m.code) - 1
}

// localsOf answers the locals that may stand for a type.
func (m *maker) localsOf(word string) []int {
	var l []int
	for k, t := range m.types {
		if t == word || word != "int" && t != "int" && m.fits(t, word) {
			l = append(l, k)
		}
	}
	return l
}

// fits tells whether a type's values may stand for those of another one, both of references.
func (m *maker) fits(word, as string) bool {
	if as == "Object" {
		return true
	}
	if strings.HasSuffix(word, "[]") || strings.HasSuffix(as, "[]") {
		return word == as
	}
	return m.model.under(word, as)
}

// value makes what gives a value of a type; the deeper it is, the shorter.
func (m *maker) value(word string, deep int) {
	switch {
	case deep <= 0 || len(m.code) > 34:
		m.short(word)
	case word == "int":
		m.number(deep - 1)
	case strings.HasSuffix(word, "[]"):
		m.rowValue(word, deep-1)
	default:
		m.reference(word, deep-1)
	}
}

// short makes a value by one instruction.
func (m *maker) short(word string) {
	l := m.localsOf(word)
	switch {
	case len(l) > 0 && m.IntN(4) > 0:
		m.add("load", l[m.IntN(len(l))])
	case word == "int":
		edges := []int{-2, -1, 0, 0, 1, 1, 1, 2, 2, 3, 5, 7, api.Most, api.Least}
		m.add("const", edges[m.IntN(len(edges))])
	case word == "Base" && m.coin():
		m.add("gets", "Base", "last")
	case m.IntN(8) == 0:
		m.add("null")
	case strings.HasSuffix(word, "[]"):
		m.newRow(word)
	default:
		m.add("new", m.kind(word))
	}
}

// kind answers a class under one of All.
func (m *maker) kind(word string) string {
	var l []string
	for _, name := range m.model.names {
		if m.model.under(name, word) && !m.model.classes[name].Iface {
			l = append(l, name)
		}
	}
	return m.one(l...)
}

func (m *maker) number(deep int) {
	switch m.IntN(13) {
	case 0, 1, 2:
		m.value("int", deep)
		m.value("int", deep)
		m.add(m.one("add", "add", "sub", "sub", "mul", "div", "rem"))
	case 3:
		m.value("int", deep)
		m.add("neg")
	case 4:
		m.value("Base", deep)
		m.add("get", "Base", "x")
	case 5:
		m.value(m.one("Object", "Base", "Has", "int[]"), deep)
		m.add("is", m.one("Object", "Base", "Kid", "Has", "Side", "Error"))
	case 6:
		m.value(m.one("int[]", "int[]", "Base[]"), deep)
		m.add("len")
	case 7, 8:
		m.value("int[]", deep)
		m.place()
		m.add("at")
	case 9:
		m.value(m.one("Has", "Kid"), deep)
		m.value("int", deep-1)
		m.add("call", "Has", "f")
	case 10:
		m.value("int", deep)
		m.value("int", deep-1)
		m.add("func", m.one("Base", "Kid", "Grand"), "u")
	case 11:
		m.add("gets", "T", "s")
	default:
		m.short("int")
	}
}

func (m *maker) rowValue(word string, deep int) {
	switch k := m.IntN(9); {
	case k > 4:
		m.newRow(word)
	case k == 3 && word == "int[]":
		m.value("Kid", deep)
		m.add("get", "Kid", "r")
	case k == 3:
		m.value("Kid", deep)
		m.add("get", "Kid", "l")
	case k == 4 && word == "int[]":
		m.add("gets", "Base", "row")
	default:
		m.short(word)
	}
}

// newRow makes a new row, most often one that may be.
func (m *maker) newRow(word string) {
	long := [...]int{0, 1, 2, 2, 3, 3, 4, 5, 6, 6, 7, -1}
	m.add("const", long[m.IntN(len(long))])
	if word == "int[]" {
		m.add("ints")
	} else {
		m.add("refs", strings.TrimSuffix(word, "[]"))
	}
}

// place makes a place in a row, most often one that there is.
func (m *maker) place() {
	places := [...]int{0, 0, 0, 0, 0, 0, 1, 1, 1, 2, 3, -1}
	m.add("const", places[m.IntN(len(places))])
}

func (m *maker) reference(word string, deep int) {
	switch m.IntN(12) {
	case 0:
		if m.IntN(4) == 0 {
			m.value("Object", deep)
		} else {
			m.add("new", m.kind(word))
		}
		m.add("cast", word)
	case 1:
		m.value("Base[]", deep)
		m.place()
		m.add("at")
		m.narrow("Base", word)
	case 2:
		m.value("Base", deep)
		m.add("get", "Base", "next")
		m.narrow("Base", word)
	case 3:
		m.value(m.one("Base", "Kid"), deep)
		m.value("Base", deep-1)
		m.add("call", "Base", "g")
		m.narrow("Base", word)
	case 4:
		if word == "Object" {
			m.value(m.one("int[]", "Base[]", "Base", "Has"), deep)
			return
		}
		m.value("Grand", 0)
		m.add("get", "Grand", "o")
		m.narrow("Object", word)
	default:
		m.short(word)
	}
}

// narrow makes a value of one type stand for another one.
func (m *maker) narrow(from, to string) {
	if !m.fits(from, to) {
		m.add("cast", to)
	}
}

// statement makes what leaves the stack as it was.
func (m *maker) statement(deep int) {
	if len(m.code) > 36 {
		return
	}
	switch m.IntN(22) {
	case 0, 1:
		k := m.IntN(len(m.types))
		m.value(m.types[k], 2)
		m.add("store", k)
	case 2:
		m.value(m.one("Base", "Kid", "Grand"), 1)
		m.value("int", 2)
		m.add("put", "Base", "x")
	case 3:
		m.value("Base", 1)
		m.value("Base", 2)
		m.add("put", "Base", "next")
	case 4:
		m.value("Kid", 1)
		m.value(m.one("int[]"), 2)
		m.add("put", "Kid", "r")
	case 5:
		m.value("Kid", 0)
		m.value("Base[]", 1)
		m.add("put", "Kid", "l")
	case 6:
		m.value("int[]", 1)
		m.place()
		m.value("int", 2)
		m.add("set")
	case 7:
		m.value("Base[]", 1)
		m.place()
		m.value("Base", 2)
		m.add("set")
	case 8:
		m.statics()
	case 9:
		m.value("Base", 1)
		m.add("call", "Base", "v")
	case 10, 11, 12:
		m.odd()
	default:
		m.choice(deep)
	}
}

func (m *maker) statics() {
	switch m.IntN(4) {
	case 0:
		m.value("int", 2)
		m.add("puts", "T", "s")
	case 1:
		m.value("Kid", 2)
		m.add("puts", "T", "k")
	case 2:
		m.value("Base", 2)
		m.add("puts", "Base", "last")
	default:
		m.value("int[]", 2)
		m.add("puts", "Base", "row")
	}
}

// odd makes what other statements leave out.
func (m *maker) odd() {
	switch m.IntN(6) {
	case 0:
		m.add("nop")
	case 1:
		m.value("Base", 1)
		m.add("dup")
		m.add("get", "Base", "x")
		m.add("put", "Base", "x")
	case 2:
		m.value("int", 1)
		m.value("Base", 1)
		m.add("swap")
		m.add("put", "Base", "x")
	case 3:
		m.value("int", 1)
		m.add("pop")
	case 4:
		m.value("Object", 1)
		m.value("Has", 0)
		m.add("func", "T", "t3")
	default:
		m.value("int", 0)
		from := m.add("ifne", 0)
		m.value("Oops", 1)
		m.add("throw")
		m.code[from].N = len(m.code)
	}
}

// choice makes what is done or not, or again, or what catches.
func (m *maker) choice(deep int) {
	if deep <= 0 {
		return
	}
	if m.IntN(3) == 0 {
		m.guarded(deep)
		return
	}
	top := len(m.code)
	from := m.condition()
	m.statement(deep - 1)
	switch m.IntN(3) {
	case 0:
		m.add("goto", top)
		m.code[from].N = len(m.code)
	case 1:
		out := m.add("goto", 0)
		m.code[from].N = len(m.code)
		m.statement(deep - 1)
		m.code[out].N = len(m.code)
	default:
		m.code[from].N = len(m.code)
	}
}

// condition makes a jump, whose place is still to be told.
func (m *maker) condition() int {
	switch m.IntN(4) {
	case 0:
		m.value("int", 2)
		return m.add(m.one("ifeq", "ifne", "iflt", "ifge"), 0)
	case 1:
		m.value("int", 1)
		m.value("int", 1)
		return m.add(m.one("cmpeq", "cmpne", "cmplt", "cmpge"), 0)
	case 2:
		m.value(m.one("Base", "Object", "int[]", "Has"), 1)
		return m.add(m.one("ifnull", "ifref"), 0)
	}
	m.value("Base", 1)
	m.value(m.one("Base", "Kid", "Object"), 0)
	return m.add(m.one("same", "other"), 0)
}

// guarded makes what is caught, if it throws.
func (m *maker) guarded(deep int) {
	from := len(m.code)
	for range 1 + m.IntN(2) {
		m.statement(deep - 1)
	}
	to := len(m.code)
	if to == from {
		return
	}
	out := m.add("goto", 0)
	for range 1 + m.IntN(2) {
		if len(m.caught) < api.MaxCatches {
			m.caught = append(m.caught, api.Catch{Name: m.one("Error", "Error", "Error", "Error", "NullError", "NumError", "RangeError", "Oops", "DepthError"), From: from, To: to, At: len(m.code)})
		}
	}
	m.add(m.one("pop", "pop", "pop", "pop", "pop", "throw"))
	m.code[out].N = len(m.code)
}

// body makes the body of a method: first what its other locals hold, then statements, then what it returns.
func (m *maker) body(class string, f *api.Method) {
	m.types, m.code, m.caught = nil, nil, nil
	if !f.Static {
		m.types = append(m.types, class)
	}
	for _, t := range f.Params {
		if t.Kind == api.Int {
			m.types = append(m.types, "int")
		} else {
			m.types = append(m.types, wordOf(t))
		}
	}
	for k := len(m.types); k < f.Locals; k++ {
		word := m.one("int", "int", "Base", "Kid", "Has", "int[]", "Object")
		if m.IntN(5) == 0 {
			break // this one and those behind it are never used
		}
		m.short(word)
		m.add("store", k)
		m.types = append(m.types, word)
	}
	if len(m.types) == 0 {
		m.add("nop")
	}
	most := 2
	if class == "T" {
		most = 5
	}
	for range 1 + m.IntN(most) {
		switch {
		case len(m.types) == 0:
		case m.coin():
			m.guarded(2)
		default:
			m.statement(2)
		}
	}
	switch f.Ret.Kind {
	case api.Void:
		m.add("leave")
	case api.Int:
		m.value("int", 2)
		m.add("ret")
	default:
		m.value(f.Ret.Name, 2)
		m.add("ret")
	}
	f.Code, f.Catches = m.code, m.caught
}

// sound makes a sound program: methods are made till each is.
func (m *maker) sound(t *testing.T) api.Program {
	t.Helper()
	p := m.p
	p.Classes = slices.Clone(p.Classes)
	for c := range p.Classes {
		p.Classes[c].Methods = slices.Clone(p.Classes[c].Methods)
	}
	for c := range p.Classes {
		for k := range p.Classes[c].Methods {
			f := &p.Classes[c].Methods[k]
			if f.Abstract {
				continue
			}
			for tries := 0; ; tries++ {
				m.body(p.Classes[c].Name, f)
				if _, _, e := flow.States(p, p.Classes[c].Name, f.Name); e == api.OK {
					break
				}
				if tries == 200 {
					t.Fatalf("%s of %s: %+v", f.Name, p.Classes[c].Name, f)
				}
			}
		}
	}
	m.Shuffle(len(p.Classes), func(i, j int) { p.Classes[i], p.Classes[j] = p.Classes[j], p.Classes[i] })
	if class, method, at, e := flow.Check(p); e != api.OK {
		t.Fatalf("%d at %d of %s of %s", e, at, method, class)
	}
	return p
}

func newMaker(t *testing.T, seed uint64) *maker {
	t.Helper()
	p := read(t, bodiless)
	return &maker{Rand: rand.New(rand.NewPCG(10, seed)), p: p, model: plainOf(p)}
}

// input makes a right input of a method: objects that its arguments reach.
func (m *maker) input(f api.Method) api.Input {
	var in api.Input
	for _, t := range f.Params {
		in.Args = append(in.Args, m.argument(&in, t))
	}
	for i := 0; i < len(in.Heap); i++ {
		o := in.Heap[i]
		if o.Type.Kind != api.Ref {
			for range m.IntN(api.MaxLen + 1) {
				of := api.Type{Kind: api.Int}
				if o.Type.Kind == api.RefRow {
					of = typeOf(o.Type.Name)
				}
				v := m.argument(&in, of)
				in.Heap[i].Slots = append(in.Heap[i].Slots, v)
			}
			continue
		}
		for _, s := range m.model.members(o.Type.Name, false) {
			v := m.argument(&in, typeOf(s.word))
			in.Heap[i].Slots = append(in.Heap[i].Slots, v)
		}
	}
	return in
}

// argument makes a value of a type: an object that is there, a new one while there is room, null.
func (m *maker) argument(in *api.Input, t api.Type) api.Val {
	if t.Kind == api.Int {
		edges := []int{-3, -2, -1, 0, 1, 1, 2, 3, 4, 5, 100, api.Most, api.Least}
		return num(edges[m.IntN(len(edges))])
	}
	for i, o := range in.Heap {
		if m.fits(wordOf(o.Type), wordOf(t)) && (o.Type.Kind == t.Kind) && m.coin() {
			return at(i)
		}
	}
	if len(in.Heap) == api.MaxObjects || m.IntN(7) == 0 {
		return nobody
	}
	o := api.Obj{Type: t}
	if t.Kind == api.Ref {
		for o.Type.Name = m.kind(t.Name); slices.Index(m.model.names, o.Type.Name) < 8; { // it always stands
			o.Type.Name = m.kind(t.Name)
		}
	}
	in.Heap = append(in.Heap, o)
	return at(len(in.Heap) - 1)
}

// asking is a program, one of its methods, an input of that.
type asking struct {
	p             api.Program
	class, method string
	in            api.Input
}

// askings makes what may be asked, each program several times.
func askings(t *testing.T, seed uint64, programs, inputs int) []asking {
	t.Helper()
	m := newMaker(t, seed)
	var l []asking
	for range programs {
		p := m.sound(t)
		for range inputs {
			c := p.Classes[slices.IndexFunc(p.Classes, func(c api.Class) bool { return c.Name == "T" })]
			f := c.Methods[m.IntN(len(c.Methods))]
			l = append(l, asking{p, "T", f.Name, m.input(f)})
		}
	}
	return l
}

// Runs of all sorts are as the plain run says, at each of their steps.
func TestRandomRunsAsPlain(t *testing.T) {
	t.Parallel()
	for _, a := range askings(t, 1, 8, 3) {
		checkAsPlain(t, a.p, a.class, a.method, a.in, 25)
	}
}

// Many more are so at a step or two, and at their ends; all that there is to be done is done in them.
func TestManyRandomRunsAsPlain(t *testing.T) {
	t.Parallel()
	seen := map[string]int{}
	ends := [3]int{}
	m := rand.New(rand.NewPCG(10, 3))
	for _, a := range askings(t, 3, 70, 5) {
		trace, more := plainly(a.p, a.class, a.method, a.in, 600)
		for what, n := range more {
			seen[what] += n
		}
		last := len(trace) - 1
		for _, n := range []int{m.IntN(last + 1), last} {
			if r, e := After(a.p, a.class, a.method, a.in, n); told(r) != told(trace[n]) || e != api.OK {
				t.Fatalf("%s, not %s: %+v", told(r), told(trace[n]), a)
			}
		}
		ends[trace[last].How]++
	}
	for op := range api.Ops {
		if seen[parse.Word(op)] < 5 {
			t.Error(parse.Word(op), seen[parse.Word(op)])
		}
	}
	for _, what := range strings.Split("throws NullError,throws NumError,throws CastError,throws RangeError,throws SizeError,throws DepthError,throws of its own,caught in frame 1,caught in frame 2,caught in frame 8,inherited,same jumps,other jumps,ifnull jumps,cmpge jumps,ifeq jumps", ",") {
		if seen[what] < 3 {
			t.Error(what, seen[what])
		}
	}
	if ends[api.Runs] < 5 || ends[api.Returned] < 50 || ends[api.Thrown] < 50 {
		t.Error(ends)
	}
}

// P10.2: each value in a local, on a stack, is of the type that the state of its place says; each slot of the heap, each
// static, of its own.
func TestEachValueIsOfItsType(t *testing.T) {
	t.Parallel()
	held := 0
	for _, a := range askings(t, 2, 10, 4) {
		w := typing{a.p, plainOf(a.p), map[[2]string][]api.State{}}
		for n := range 40 {
			r, e := After(a.p, a.class, a.method, a.in, n)
			if e != api.OK || r.Steps < n {
				break
			}
			held += w.check(t, r)
		}
	}
	if held < 8000 {
		t.Error(held)
	}
}

// typing is what the types of a program say.
type typing struct {
	p      api.Program
	model  plainModel
	states map[[2]string][]api.State
}

// check holds each value of a run against its type, and answers how many there are.
func (w typing) check(t *testing.T, r api.Run) int {
	t.Helper()
	n := 0
	hold := func(l []api.Val, types []api.Type) {
		t.Helper()
		if len(l) != len(types) {
			t.Fatalf("%v of %v: %s", l, types, told(r))
		}
		for i, v := range l {
			if n++; !w.is(r.Heap, v, types[i]) {
				t.Fatalf("%v of %v: %s", v, types[i], told(r))
			}
		}
	}
	for i, f := range r.Frames {
		key := [2]string{f.Class, f.Method}
		if w.states[key] == nil {
			w.states[key], _, _ = flow.States(w.p, f.Class, f.Method)
		}
		s := w.states[key][f.Pc]
		if !s.Seen || i < len(r.Frames)-1 && len(f.Stack) > len(s.Stack) {
			t.Fatalf("%s of %s at %d: %+v: %s", f.Method, f.Class, f.Pc, s, told(r))
		}
		hold(f.Locals, s.Locals)
		if i < len(r.Frames)-1 {
			s.Stack = s.Stack[:len(f.Stack)] // what its call took is there no more
		}
		hold(f.Stack, s.Stack)
	}
	for _, o := range r.Heap {
		var types []api.Type
		slots, _ := layout.Slots(w.p, o.Type.Name)
		for _, s := range slots {
			types = append(types, s.Type)
		}
		switch o.Type.Kind {
		case api.IntRow:
			types = slices.Repeat([]api.Type{{Kind: api.Int}}, len(o.Slots))
		case api.RefRow:
			types = slices.Repeat([]api.Type{typeOf(o.Type.Name)}, len(o.Slots))
		}
		hold(o.Slots, types)
	}
	var types []api.Type
	statics, _ := layout.Statics(w.p)
	for _, s := range statics {
		types = append(types, s.Type)
	}
	hold(r.Statics, types)
	return n
}

// is tells whether a value is of a type, as it is while verified.
func (w typing) is(h []api.Obj, v api.Val, t api.Type) bool {
	switch t.Kind {
	case api.Nothing:
		return true
	case api.Int:
		return !v.IsRef && v.N >= api.Least && v.N <= api.Most
	case api.Null:
		return v == nobody
	}
	if v == nobody {
		return true
	}
	if !v.IsRef || v.N < 0 || v.N >= len(h) {
		return false
	}
	of := h[v.N].Type
	switch {
	case t.Kind != api.Ref:
		return of == t
	case t.Name == "Object":
		return true
	}
	return of.Kind == api.Ref && w.model.under(of.Name, t.Name)
}
