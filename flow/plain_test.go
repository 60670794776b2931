package flow

import (
	"slices"
	"strconv"
	"strings"
	"testing"

	"delver/api"
	"delver/hier"
	"delver/lattice"
	"delver/layout"
	"delver/parse"
)

// read answers the program that a text stands for.
func read(t *testing.T, text string) api.Program {
	t.Helper()
	p, at, e := parse.Program([]byte(text))
	if e != api.OK {
		t.Fatalf("%d at %d in %q", e, at, text[at:])
	}
	return p
}

// word answers the word of a type: int, int[], null, nothing, a name, a name with [] behind it.
func word(t api.Type) string {
	switch t.Kind {
	case api.Int:
		return "int"
	case api.IntRow:
		return "int[]"
	case api.Null:
		return "null"
	case api.Nothing:
		return "nothing"
	case api.Ref:
		return t.Name
	case api.RefRow:
		return t.Name + "[]"
	}
	return "void"
}

// typeOf answers the type that a word stands for.
func typeOf(word string) api.Type {
	name, row := strings.CutSuffix(word, "[]")
	switch {
	case word == "int":
		return api.Type{Kind: api.Int}
	case word == "int[]":
		return api.Type{Kind: api.IntRow}
	case word == "null":
		return api.Type{Kind: api.Null}
	case word == "nothing":
		return api.Type{Kind: api.Nothing}
	case row:
		return api.Type{Kind: api.RefRow, Name: name}
	}
	return api.Type{Kind: api.Ref, Name: word}
}

func words(l []api.Type) []string {
	var out []string
	for _, t := range l {
		out = append(out, word(t))
	}
	return out
}

// told writes a state: its locals, a bar, its stack.
func told(locals, stack []string) string {
	return strings.Join(locals, " ") + "|" + strings.Join(stack, " ")
}

// toldStates writes states; - is a place that is never reached.
func toldStates(l []api.State) string {
	var out []string
	for _, s := range l {
		switch {
		case s.Seen:
			out = append(out, told(words(s.Locals), words(s.Stack)))
		case len(s.Locals)+len(s.Stack) > 0:
			out = append(out, "not seen, but "+told(words(s.Locals), words(s.Stack)))
		default:
			out = append(out, "-")
		}
	}
	return strings.Join(out, ", ")
}

// toldError writes an error and its place.
func toldError(e api.Errno, at int) string { return e.Error() + " at " + strconv.Itoa(at) }

// outcome writes what States answers.
func outcome(t *testing.T, p api.Program, class, method string) string {
	t.Helper()
	l, at, e := States(p, class, method)
	if e != api.OK {
		if len(l) > 0 {
			t.Errorf("%s of %s: %s beside an error", method, class, toldStates(l))
		}
		return toldError(e, at)
	}
	if at != 0 {
		t.Errorf("%s of %s: all is well at %d", method, class, at)
	}
	return toldStates(l)
}

// plainRows writes down the chapter's table: ? asks, - takes, + gives, and the word behind it tells what; * stands for
// what its own row says.
func plainRows() map[string]string {
	return map[string]string{
		"nop": "", "goto": "", "const": "+int", "null": "+null",
		"load": "?local ?usable +local", "store": "?local -usable *store",
		"pop": "-any", "dup": "?one +top", "swap": "?two *swap",
		"add": "-int -int +int", "sub": "-int -int +int", "mul": "-int -int +int", "div": "-int -int +int", "rem": "-int -int +int",
		"neg": "-int +int", "ifeq": "-int", "ifne": "-int", "iflt": "-int", "ifge": "-int",
		"cmpeq": "-int -int", "cmpne": "-int -int", "cmplt": "-int -int", "cmpge": "-int -int",
		"ifnull": "-reference", "ifref": "-reference", "same": "-reference -reference", "other": "-reference -reference",
		"new": "?class +A", "get": "?slot -A +slot", "put": "?slot -slot -A", "gets": "?static +static", "puts": "?static -static",
		"ints": "-int +int[]", "refs": "?there -int +A[]",
		"len": "-row +int", "at": "-int -row +element", "set": "?three ?low -element -int -low",
		"is": "?there -reference +int", "cast": "?there -reference +A",
		"call": "?call -params -A +answer", "func": "?function -params +answer",
		"ret": "?answers -own", "leave": "?void", "throw": "-Error",
	}
}

// plainModel is what the chapter says of a program that layout.Check takes, in words.
type plainModel struct {
	p     api.Program
	fit   map[[2]string]bool
	met   map[[2]string]string
	rows  map[string]string
	known map[string]bool // of each of All: whether it is no interface
}

func plainOf(p api.Program) plainModel {
	m := plainModel{p, map[[2]string]bool{}, map[[2]string]string{}, plainRows(), map[string]bool{}}
	for _, c := range hier.All(p) {
		m.known[c.Name] = !c.Iface
	}
	return m
}

// fits asks layer 6, and once for each two.
func (m plainModel) fits(from, to string) bool {
	key := [2]string{from, to}
	if _, ok := m.fit[key]; !ok {
		m.fit[key] = lattice.Fits(m.p, typeOf(from), typeOf(to))
	}
	return m.fit[key]
}

func (m plainModel) meet(a, b string) string {
	key := [2]string{a, b}
	if _, ok := m.met[key]; !ok {
		t, _ := lattice.Meet(m.p, typeOf(a), typeOf(b))
		m.met[key] = word(t)
	}
	return m.met[key]
}

// plainState is a state that an instruction is done to; named holds what its row names.
type plainState struct {
	plainModel
	locals, stack []string
	named         map[string]string
	params        []string
}

// ask ends what is done by an error; whoever asks catches it.
func ask(well bool, e api.Errno) {
	if !well {
		panic(e)
	}
}

// caught does something, and answers the error that ended it.
func caught(do func()) (e api.Errno) {
	defer func() {
		if x := recover(); x != nil {
			e = x.(api.Errno)
		}
	}()
	do()
	return api.OK
}

func (s *plainState) deep(n int) string { return s.stack[len(s.stack)-n] }

func elementOf(row string) string { return strings.TrimSuffix(row, "[]") }

// ask asks what a row asks.
func (s *plainState) ask(what string, i api.Instr, m api.Method) {
	isClass, there := s.known[i.A]
	switch what {
	case "local":
		ask(i.N < len(s.locals), api.ErrArg)
		s.named["local"] = s.locals[i.N]
	case "usable":
		ask(s.named["local"] != "nothing", api.ErrType)
	case "one", "two", "three":
		ask(len(s.stack) >= map[string]int{"one": 1, "two": 2, "three": 3}[what], api.ErrStack)
		s.named["top"] = s.deep(1)
	case "low":
		row := s.deep(3)
		ask(strings.HasSuffix(row, "[]"), api.ErrType)
		s.named["low"], s.named["element"] = row, elementOf(row)
	case "class":
		ask(isClass, api.ErrNone)
	case "there":
		ask(there, api.ErrNone)
	case "answers":
		ask(m.Ret.Kind != api.Void, api.ErrType)
		s.named["own"] = word(m.Ret)
	case "void":
		ask(m.Ret.Kind == api.Void, api.ErrType)
	default:
		s.askMember(what, i)
	}
}

// askMember asks for a field, a method.
func (s *plainState) askMember(what string, i api.Instr) {
	l, _ := layout.Slots(s.p, i.A)
	if what == "static" {
		l, _ = layout.Statics(s.p)
		l = slices.DeleteFunc(l, func(x api.Slot) bool { return x.Owner != i.A })
	}
	if what == "slot" || what == "static" {
		k := slices.IndexFunc(l, func(x api.Slot) bool { return x.Name == i.B })
		ask(k >= 0, api.ErrNone)
		s.named[what] = word(l[k].Type)
		return
	}
	m, ok := layout.Call(s.p, i.A, i.B)
	if what == "function" {
		_, m, ok = layout.Method(s.p, i.A, i.B)
		ok = ok && m.Static
	}
	ask(ok, api.ErrNone)
	s.params, s.named["answer"] = words(m.Params), word(m.Ret)
}

// take takes what a row takes.
func (s *plainState) take(what string) {
	if what == "params" {
		for k := range s.params {
			s.take(s.params[len(s.params)-1-k])
		}
		return
	}
	ask(len(s.stack) > 0, api.ErrStack)
	top := s.deep(1)
	s.stack = s.stack[:len(s.stack)-1]
	s.named["it"] = top
	switch what {
	case "any":
	case "usable":
		ask(top != "nothing", api.ErrType)
	case "reference":
		ask(top != "int" && top != "nothing", api.ErrType)
	case "row":
		ask(strings.HasSuffix(top, "[]"), api.ErrType)
		s.named["element"] = elementOf(top)
	default:
		ask(s.fits(top, s.meant(what)), api.ErrType)
	}
}

// meant answers the type that a row's word stands for.
func (s *plainState) meant(what string) string {
	if named, ok := s.named[what]; ok {
		return named
	}
	return what
}

// give gives what a row gives.
func (s *plainState) give(what string) {
	if what = s.meant(what); what != "void" {
		ask(len(s.stack) < api.MaxStack, api.ErrStack)
		s.stack = append(s.stack, what)
	}
}

// do does an instruction, or ends by an error.
func (s *plainState) do(i api.Instr, m api.Method) {
	s.named = map[string]string{"A": i.A, "A[]": i.A + "[]"}
	for _, step := range strings.Fields(s.rows[parse.Word(i.Op)]) {
		switch what := step[1:]; step[0] {
		case '?':
			s.ask(what, i, m)
		case '-':
			s.take(what)
		case '+':
			s.give(what)
		}
		switch step {
		case "*store":
			s.locals[i.N] = s.named["it"]
		case "*swap":
			n := len(s.stack)
			s.stack[n-1], s.stack[n-2] = s.stack[n-2], s.stack[n-1]
		}
	}
}

// plainNext answers where an instruction goes on.
func plainNext(m api.Method, at int) []int {
	i := m.Code[at]
	switch word := parse.Word(i.Op); {
	case word == "goto":
		return []int{i.N}
	case slices.Contains(strings.Fields("ifeq ifne iflt ifge cmpeq cmpne cmplt cmpge ifnull ifref same other"), word):
		return []int{i.N, at + 1}
	case word == "ret", word == "leave", word == "throw":
		return nil
	}
	return []int{at + 1}
}

// plainPass is the way through a method; a place that is not in seen was not.
type plainPass struct {
	plainModel
	m    api.Method
	seen map[int]*plainState
	due  map[int]bool
	at   int
}

func (v *plainPass) reach(at int, locals, stack []string) {
	s, ok := v.seen[at]
	if !ok {
		v.seen[at] = &plainState{plainModel: v.plainModel, locals: slices.Clone(locals), stack: slices.Clone(stack)}
		v.due[at] = true
		return
	}
	ask(len(s.stack) == len(stack), api.ErrStack)
	before := told(s.locals, s.stack)
	for k := range locals {
		s.locals[k] = v.meet(s.locals[k], locals[k])
	}
	for k := range stack {
		s.stack[k] = v.meet(s.stack[k], stack[k])
	}
	if told(s.locals, s.stack) != before {
		v.due[at] = true
	}
}

// through goes through the least place that is due.
func (v *plainPass) through() {
	v.at = len(v.m.Code)
	for at := range v.due {
		v.at = min(v.at, at)
	}
	delete(v.due, v.at)
	s := *v.seen[v.at]
	s.locals, s.stack = slices.Clone(s.locals), slices.Clone(s.stack)
	for _, c := range v.m.Catches {
		if c.From <= v.at && v.at < c.To {
			v.reach(c.At, s.locals, []string{c.Name})
		}
	}
	s.do(v.m.Code[v.at], v.m)
	next := plainNext(v.m, v.at)
	for _, to := range next {
		ask(0 <= to && to < len(v.m.Code), api.ErrJump)
	}
	for _, to := range next {
		v.reach(to, s.locals, s.stack)
	}
}

// begin asks what is asked ahead, and reaches the first place.
func (v *plainPass) begin(class string) {
	n := len(v.m.Code)
	var locals []string
	if !v.m.Static {
		locals = append(locals, class)
	}
	locals = append(locals, words(v.m.Params)...)
	ask(n > 0 && v.m.Locals >= len(locals), api.ErrLen)
	for _, c := range v.m.Catches {
		_, there := v.known[c.Name]
		ask(c.From < c.To && c.To <= n && c.At < n, api.ErrJump)
		ask(there, api.ErrNone)
		ask(hier.Under(v.p, c.Name, "Error"), api.ErrType)
	}
	for len(locals) < v.m.Locals {
		locals = append(locals, "nothing")
	}
	v.reach(0, locals, nil)
}

// outcome writes what States must answer of a method, and how often a place is gone through again.
func (m plainModel) outcome(class string, f api.Method) (string, int) {
	v := plainPass{plainModel: m, m: f, seen: map[int]*plainState{}, due: map[int]bool{}}
	n := 0
	e := caught(func() {
		for v.begin(class); len(v.due) > 0; n++ {
			v.through()
		}
	})
	if e != api.OK {
		return toldError(e, v.at), 0
	}
	var l []string
	for at := range f.Code {
		if s, ok := v.seen[at]; ok {
			l = append(l, told(s.locals, s.stack))
		} else {
			l = append(l, "-")
		}
	}
	return strings.Join(l, ", "), n - len(v.seen)
}

// checkAsPlain holds States and Check against the model, for a program that layout.Check takes.
func checkAsPlain(t *testing.T, p api.Program) {
	t.Helper()
	m := plainOf(p)
	first := ""
	for _, c := range p.Classes {
		for _, f := range c.Methods {
			if f.Abstract {
				continue
			}
			want, _ := m.outcome(c.Name, f)
			if got := outcome(t, p, c.Name, f.Name); got != want {
				t.Errorf("%s of %s: %s, not %s: %+v", f.Name, c.Name, got, want, f)
			}
			if first == "" && strings.Contains(want, " at ") {
				first = f.Name + " of " + c.Name + ": " + want
			}
		}
	}
	if got := checked(p); got != first {
		t.Errorf("Check: %q, not %q: %+v", got, first, p)
	}
}

// checked writes what Check answers; nothing, if all is zero.
func checked(p api.Program) string {
	class, method, at, e := Check(p)
	if class+method == "" && at == 0 && e == api.OK {
		return ""
	}
	return method + " of " + class + ": " + toldError(e, at)
}
