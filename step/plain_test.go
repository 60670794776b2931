package step

import (
	"math/big"
	"slices"
	"strconv"
	"strings"
	"testing"

	"delver/api"
	"delver/parse"
)

// read answers the program that a text stands for.
func read(t *testing.T, text string) api.Program {
	t.Helper()
	p, at, e := parse.Program([]byte(text))
	if e != api.OK {
		t.Fatalf("%d at %d in %q", e, at, text[at:])
	}
	return p
}

// typeOf answers the type that a word stands for: int, int[], a name, a name with [] behind it.
func typeOf(word string) api.Type {
	name, row := strings.CutSuffix(word, "[]")
	switch {
	case word == "void":
		return api.Type{Kind: api.Void}
	case word == "int":
		return api.Type{Kind: api.Int}
	case word == "int[]":
		return api.Type{Kind: api.IntRow}
	case row:
		return api.Type{Kind: api.RefRow, Name: name}
	}
	return api.Type{Kind: api.Ref, Name: word}
}

// wordOf answers the word of an object's type.
func wordOf(t api.Type) string {
	switch t.Kind {
	case api.Ref:
		return t.Name
	case api.RefRow:
		return t.Name + "[]"
	}
	return "int[]"
}

func num(n int) api.Val { return api.Val{N: n} }

func at(n int) api.Val { return api.Val{IsRef: true, N: n} }

var nobody = at(-1)

// valuesOf answers the values that a text stands for: 7 is an int, @7 a reference, - null.
func valuesOf(text string) []api.Val {
	var l []api.Val
	for _, word := range strings.Fields(text) {
		digits, ref := strings.CutPrefix(word, "@")
		n, e := strconv.Atoi(digits)
		switch {
		case word == "-":
			l = append(l, nobody)
		case e != nil:
			panic(word)
		default:
			l = append(l, api.Val{IsRef: ref, N: n})
		}
	}
	return l
}

// inputOf answers the input that a text stands for: its arguments, then of each object its type and its slots, a bar
// ahead of it.
func inputOf(text string) api.Input {
	args, heap, _ := strings.Cut(text, "|")
	in := api.Input{Args: valuesOf(args)}
	if heap == "" {
		return in
	}
	for part := range strings.SplitSeq(heap, "|") {
		word, slots, _ := strings.Cut(strings.TrimSpace(part), " ")
		in.Heap = append(in.Heap, api.Obj{Type: typeOf(word), Slots: valuesOf(slots)})
	}
	return in
}

// toldValues writes values as valuesOf reads them.
func toldValues(l []api.Val) string {
	var out []string
	for _, v := range l {
		switch {
		case v == nobody:
			out = append(out, "-")
		case v.IsRef:
			out = append(out, "@"+strconv.Itoa(v.N))
		default:
			out = append(out, strconv.Itoa(v.N))
		}
	}
	return strings.Join(out, " ")
}

// toldHeap writes objects, a bar ahead of each.
func toldHeap(h []api.Obj) string {
	text := ""
	for _, o := range h {
		text += " | " + strings.TrimSpace(wordOf(o.Type)+" "+toldValues(o.Slots))
	}
	return text
}

// toldFrames writes of each frame whose method it is, its place, its locals, its stack.
func toldFrames(l []api.Frame) string {
	text := ""
	for _, f := range l {
		text += " > " + f.Class + "." + f.Method + " " + strconv.Itoa(f.Pc) + " (" + toldValues(f.Locals) + ") " + toldValues(f.Stack)
	}
	return text
}

// told writes a run: how it goes, its steps, its value, its heap, its statics, its frames.
func told(r api.Run) string {
	how := [...]string{"runs", "returned", "thrown", "cut"}[r.How]
	return how + " " + strconv.Itoa(r.Steps) + ": " + toldValues([]api.Val{r.Value}) + toldHeap(r.Heap) + " ; " + toldValues(r.Statics) + toldFrames(r.Frames)
}

// thing is an object: one that is told from others by where it lies in memory. What stands in it is an int or a *thing.
type thing struct {
	word     string
	fields   map[string]any // of a class' object
	elements []any
}

// nothing is null.
var nothing *thing

// member is a field, and the class that has it.
type member struct{ class, name, word string }

// plainModel is what a sound program says, worked out in the plainest way.
type plainModel struct {
	names   []string // in All's order
	classes map[string]api.Class
}

func plainOf(p api.Program) plainModel {
	m := plainModel{classes: map[string]api.Class{}}
	for _, name := range strings.Fields("Object Error NullError RangeError CastError NumError SizeError DepthError") {
		c := api.Class{Name: name}
		if name != "Object" && name != "Error" {
			c.Super = "Error"
		}
		m.names, m.classes[name] = append(m.names, name), c
	}
	for _, c := range p.Classes {
		m.names, m.classes[c.Name] = append(m.names, c.Name), c
	}
	return m
}

// under tells whether one is under another one, by going up each way.
func (m plainModel) under(a, b string) bool {
	if a == b || b == "Object" {
		return true
	}
	for _, up := range append([]string{m.classes[a].Super}, m.classes[a].Ifaces...) {
		if up != "" && m.under(up, b) {
			return true
		}
	}
	return false
}

// members answers the fields of a class, its supers' ahead, or its own static ones.
func (m plainModel) members(class string, static bool) []member {
	if class == "" {
		return nil
	}
	var l []member
	if !static {
		l = m.members(m.classes[class].Super, false)
	}
	for _, f := range m.classes[class].Fields {
		if f.Static == static {
			word := "int"
			if f.Type.Kind != api.Int {
				word = wordOf(f.Type)
			}
			l = append(l, member{class, f.Name, word})
		}
	}
	return l
}

// method answers the method that an object of a class has by a name, and whose it is.
func (m plainModel) method(class, name string) (string, api.Method) {
	for _, f := range m.classes[class].Methods {
		if f.Name == name {
			return class, f
		}
	}
	return m.method(m.classes[class].Super, name)
}

// params answers how many parameters a method by that name has, of a class or an interface.
func (m plainModel) params(class, name string) int {
	for _, f := range m.classes[class].Methods {
		if f.Name == name {
			return len(f.Params)
		}
	}
	for _, up := range append([]string{m.classes[class].Super}, m.classes[class].Ifaces...) {
		if n := -1; up != "" {
			if n = m.params(up, name); n >= 0 {
				return n
			}
		}
	}
	return -1
}

func plainZero(word string) any {
	if word == "int" {
		return 0
	}
	return nothing
}

// plainFrame is one of a plain run's.
type plainFrame struct {
	class         string
	method        api.Method
	pc            int
	locals, stack []any
}

// plainRun is a run in which a call is a call: what is thrown is a panic, and a frame lasts as long as its call. What it
// is at each step is written down.
type plainRun struct {
	plainModel
	heap    []*thing
	statics map[member]any
	frames  []*plainFrame
	steps   int
	most    int
	how     int
	value   any
	trace   []api.Run
	seen    map[string]int // what is done, what is thrown and caught: how often
}

// stop ends a run that has done as many steps as it may.
type stop struct{}

// plainly answers what a run is behind each step, at most so many, and what was seen in it.
func plainly(p api.Program, class, method string, in api.Input, most int) ([]api.Run, map[string]int) {
	r := plainRun{plainModel: plainOf(p), statics: map[member]any{}, most: most, value: 0, seen: map[string]int{}}
	for range in.Heap {
		r.heap = append(r.heap, &thing{})
	}
	for i, o := range in.Heap {
		r.fill(r.heap[i], o)
	}
	for _, name := range r.names {
		for _, s := range r.members(name, true) {
			r.statics[s] = plainZero(s.word)
		}
	}
	r.whole(class, method, r.values(in.Args))
	return r.trace, r.seen
}

func (r *plainRun) values(l []api.Val) []any {
	var out []any
	for _, v := range l {
		switch {
		case v == nobody:
			out = append(out, nothing)
		case v.IsRef:
			out = append(out, r.heap[v.N])
		default:
			out = append(out, v.N)
		}
	}
	return out
}

// fill makes a thing of an object.
func (r *plainRun) fill(x *thing, o api.Obj) {
	x.word = wordOf(o.Type)
	if o.Type.Kind != api.Ref {
		x.elements = r.values(o.Slots)
		return
	}
	x.fields = map[string]any{}
	for i, v := range r.values(o.Slots) {
		x.fields[r.members(x.word, false)[i].name] = v
	}
}

// whole does the run from its beginning to its end.
func (r *plainRun) whole(class, method string, given []any) {
	defer func() {
		switch x := recover().(type) {
		case nil, stop:
		case *thing:
			r.how, r.value = api.Thrown, x
			r.note()
		default:
			panic(x)
		}
	}()
	owner, m := r.method(class, method)
	v := r.invoke(owner, m, given)
	if v == nil {
		v = 0
	}
	r.how, r.value = api.Returned, v
	r.note()
}

// note writes down what the run is.
func (r *plainRun) note() {
	now := api.Run{How: r.how, Steps: r.steps, Value: r.val(r.value)}
	for _, x := range r.heap {
		o := api.Obj{Type: typeOf(x.word), Slots: r.vals(x.elements)}
		for _, f := range r.members(x.word, false) {
			o.Slots = append(o.Slots, r.val(x.fields[f.name]))
		}
		now.Heap = append(now.Heap, o)
	}
	for _, name := range r.names {
		for _, s := range r.members(name, true) {
			now.Statics = append(now.Statics, r.val(r.statics[s]))
		}
	}
	for _, f := range r.frames {
		now.Frames = append(now.Frames, api.Frame{Class: f.class, Method: f.method.Name, Pc: f.pc, Locals: r.vals(f.locals), Stack: r.vals(f.stack)})
	}
	r.trace = append(r.trace, now)
	if r.steps == r.most && r.how == api.Runs {
		panic(stop{})
	}
}

func (r *plainRun) val(v any) api.Val {
	switch v := v.(type) {
	case int:
		return num(v)
	case *thing:
		return at(slices.Index(r.heap, v)) // of nothing there is none: -1
	}
	panic(v)
}

func (r *plainRun) vals(l []any) []api.Val {
	var out []api.Val
	for _, v := range l {
		out = append(out, r.val(v))
	}
	return out
}

// thrown throws a new object of a class that always stands.
func (r *plainRun) thrown(class string) {
	r.seen["throws "+class]++
	x := &thing{word: class, fields: map[string]any{}}
	r.heap = append(r.heap, x)
	panic(x)
}

// invoke calls a method, and answers what it returns; nil of one that returns nothing.
func (r *plainRun) invoke(class string, m api.Method, given []any) any {
	if len(r.frames) == 8 {
		r.thrown("DepthError")
	}
	f := &plainFrame{class: class, method: m, locals: given}
	for len(f.locals) < m.Locals {
		f.locals = append(f.locals, 0)
	}
	r.frames = append(r.frames, f)
	defer func() { r.frames = r.frames[:slices.Index(r.frames, f)] }()
	for {
		r.note()
		if v, done := r.one(f); done {
			return v
		}
	}
}

// one does an instruction of a frame, and what catches it there, if it throws.
func (r *plainRun) one(f *plainFrame) (v any, done bool) {
	depth := len(r.frames)
	defer func() {
		x := recover()
		if x == nil {
			return
		}
		if v, is := x.(*thing); is {
			for _, c := range f.method.Catches {
				if f.pc >= c.From && f.pc < c.To && r.under(v.word, c.Name) {
					r.seen["caught in frame "+strconv.Itoa(depth)]++
					f.pc, f.stack = c.At, []any{v}
					return
				}
			}
		}
		panic(x)
	}()
	r.steps++
	i := f.method.Code[f.pc]
	word := parse.Word(i.Op)
	r.seen[word]++
	switch {
	case word == "ret":
		return f.pop(), true
	case word == "leave":
		return nil, true
	}
	r.does(f, i, word)
	return nil, false
}

func (f *plainFrame) push(v any) { f.stack = append(slices.Clone(f.stack), v) }

func (f *plainFrame) pop() any {
	n := len(f.stack) - 1
	v := f.stack[n]
	f.stack = slices.Clone(f.stack[:n])
	return v
}

func (f *plainFrame) popInt() int { return f.pop().(int) }

func (f *plainFrame) popRef() *thing { return f.pop().(*thing) }

// does does an instruction that returns nothing.
func (r *plainRun) does(f *plainFrame, i api.Instr, word string) {
	switch word {
	case "nop":
	case "const":
		f.push(i.N)
	case "null":
		f.push(nothing)
	case "load":
		f.push(f.locals[i.N])
	case "store":
		f.locals = slices.Clone(f.locals)
		f.locals[i.N] = f.pop()
	case "pop":
		f.pop()
	case "dup":
		f.push(f.stack[len(f.stack)-1])
	case "swap":
		a, b := f.pop(), f.pop()
		f.push(a)
		f.push(b)
	case "throw":
		x := f.popRef()
		if x == nothing {
			r.thrown("NullError")
		}
		r.seen["throws of its own"]++
		panic(x)
	case "call", "func":
		r.calls(f, i, word)
	default:
		if jumps, is := f.jumps(word); is {
			if jumps {
				f.pc = i.N - 1
				r.seen[word+" jumps"]++
			}
		} else if !r.numbers(f, word) {
			r.things(f, i, word)
		}
	}
	f.pc++
}

func (r *plainRun) calls(f *plainFrame, i api.Instr, word string) {
	n := r.params(i.A, i.B)
	given := make([]any, n)
	for k := range given {
		given[n-1-k] = f.pop()
	}
	class := i.A
	if word == "call" {
		x := f.popRef()
		if x == nothing {
			r.thrown("NullError")
		}
		class, given = x.word, append([]any{x}, given...)
	}
	owner, m := r.method(class, i.B)
	if owner != class {
		r.seen["inherited"]++
	}
	if v := r.invoke(owner, m, given); v != nil {
		f.push(v)
	}
}

// jumps tells whether a jump is taken; false, if it is none.
func (f *plainFrame) jumps(word string) (jumps, is bool) {
	switch word {
	case "goto":
		return true, true
	case "ifeq", "ifne", "iflt", "ifge":
		sign := big.NewInt(int64(f.popInt())).Sign()
		return map[string]bool{"ifeq": sign == 0, "ifne": sign != 0, "iflt": sign < 0, "ifge": sign >= 0}[word], true
	case "cmpeq", "cmpne", "cmplt", "cmpge":
		b, a := f.popInt(), f.popInt()
		sign := big.NewInt(int64(a)).Cmp(big.NewInt(int64(b)))
		return map[string]bool{"cmpeq": sign == 0, "cmpne": sign != 0, "cmplt": sign < 0, "cmpge": sign >= 0}[word], true
	case "ifnull":
		return f.popRef() == nothing, true
	case "ifref":
		return f.popRef() != nothing, true
	case "same":
		return f.popRef() == f.popRef(), true
	case "other":
		return f.popRef() != f.popRef(), true
	}
	return false, false
}

// numbers does what is done to numbers, by numbers without bounds; false, if the word is none of that.
func (r *plainRun) numbers(f *plainFrame, word string) bool {
	if !slices.Contains(strings.Fields("add sub mul div rem neg"), word) {
		return false
	}
	b, a := big.NewInt(int64(f.popInt())), new(big.Int)
	if word != "neg" {
		a.SetInt64(int64(f.popInt()))
	}
	var c big.Int
	switch word {
	case "add":
		c.Add(a, b)
	case "sub", "neg":
		c.Sub(a, b)
	case "mul":
		c.Mul(a, b)
	default:
		if b.Sign() == 0 {
			r.thrown("NumError")
		}
		var rest big.Int
		c.QuoRem(a, b, &rest)
		if word == "rem" {
			c = rest
		}
	}
	if c.Cmp(big.NewInt(-2147483648)) < 0 || c.Cmp(big.NewInt(2147483647)) > 0 {
		r.thrown("NumError")
	}
	f.push(int(c.Int64()))
	return true
}

// things does what is done to objects, rows and statics.
func (r *plainRun) things(f *plainFrame, i api.Instr, word string) {
	switch word {
	case "new":
		x := &thing{word: i.A, fields: map[string]any{}}
		for _, s := range r.members(i.A, false) {
			x.fields[s.name] = plainZero(s.word)
		}
		r.heap = append(r.heap, x)
		f.push(x)
	case "get":
		f.push(r.there(f.popRef()).fields[i.B])
	case "put":
		v := f.pop()
		r.there(f.popRef()).fields[i.B] = v
	case "gets":
		f.push(r.statics[r.static(i)])
	case "puts":
		r.statics[r.static(i)] = f.pop()
	case "ints":
		r.row(f, "int", 0)
	case "refs":
		r.row(f, i.A, nothing)
	case "len":
		f.push(len(r.there(f.popRef()).elements))
	case "at":
		k := f.popInt()
		f.push(*r.element(f.popRef(), k))
	case "set":
		v, k := f.pop(), f.popInt()
		*r.element(f.popRef(), k) = v
	case "is":
		n := 0
		if r.counts(f.popRef(), i.A) {
			n = 1
		}
		f.push(n)
	case "cast":
		x := f.popRef()
		if x != nothing && !r.counts(x, i.A) {
			r.thrown("CastError")
		}
		f.push(x)
	default:
		panic(word)
	}
}

// there answers a thing that is not null.
func (r *plainRun) there(x *thing) *thing {
	if x == nothing {
		r.thrown("NullError")
	}
	return x
}

func (r *plainRun) static(i api.Instr) member {
	for _, s := range r.members(i.A, true) {
		if s.name == i.B {
			return s
		}
	}
	panic(i)
}

func (r *plainRun) row(f *plainFrame, word string, nought any) {
	n := f.popInt()
	if n < 0 || n > 6 {
		r.thrown("SizeError")
	}
	x := &thing{word: word + "[]", elements: slices.Repeat([]any{nought}, n)}
	r.heap = append(r.heap, x)
	f.push(x)
}

// element answers where an element of a row stands.
func (r *plainRun) element(x *thing, k int) *any {
	if l := r.there(x).elements; k < 0 || k >= len(l) {
		r.thrown("RangeError")
	}
	return &x.elements[k]
}

// counts tells whether a thing counts as one of a class.
func (r *plainRun) counts(x *thing, class string) bool {
	if x == nothing {
		return false
	}
	return class == "Object" || x.fields != nil && r.under(x.word, class)
}
