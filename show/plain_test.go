package show

import (
	"fmt"
	"math"
	"reflect"
	"strings"

	"delver/api"
	"delver/parse"
)

// What is to be shown, written down once more, to hold the package against.

// instrRow is an instruction: its number, its word, what its word has: "n" a number, "a" a name, "ab" two.
type instrRow struct {
	op          int
	word        string
	has         string
	least, most int
}

// instrs answers all instructions, as the chapter of layer 2 lists them.
func instrs() []instrRow {
	rows := []instrRow{
		{op: api.OpConst, word: "const", has: "n", least: math.MinInt32, most: math.MaxInt32},
		{op: api.OpLoad, word: "load", has: "n", most: 7}, {op: api.OpStore, word: "store", has: "n", most: 7},
		{op: api.OpNew, word: "new", has: "a"}, {op: api.OpRefs, word: "refs", has: "a"},
		{op: api.OpIs, word: "is", has: "a"}, {op: api.OpCast, word: "cast", has: "a"},
		{op: api.OpGet, word: "get", has: "ab"}, {op: api.OpPut, word: "put", has: "ab"},
		{op: api.OpGets, word: "gets", has: "ab"}, {op: api.OpPuts, word: "puts", has: "ab"},
		{op: api.OpCall, word: "call", has: "ab"}, {op: api.OpFunc, word: "func", has: "ab"},
	}
	jumps := strings.Fields("goto ifeq ifne iflt ifge cmpeq cmpne cmplt cmpge ifnull ifref same other")
	for i, word := range jumps {
		rows = append(rows, instrRow{op: api.OpGoto + i, word: word, has: "n", most: 47})
	}
	alone := []int{api.OpNop, api.OpNull, api.OpPop, api.OpDup, api.OpSwap, api.OpAdd, api.OpSub, api.OpMul, api.OpDiv, api.OpRem, api.OpNeg,
		api.OpInts, api.OpLen, api.OpAt, api.OpSet, api.OpRet, api.OpLeave, api.OpThrow}
	for i, word := range strings.Fields("nop null pop dup swap add sub mul div rem neg ints len at set ret leave throw") {
		rows = append(rows, instrRow{op: alone[i], word: word})
	}
	return rows
}

// plain writes any program, even one that can't be shown, by words with a blank between each two.
func plain(p api.Program) string {
	var l []string
	for _, c := range p.Classes {
		l = append(l, plainClass(c))
	}
	return strings.Join(l, " ")
}

func plainClass(c api.Class) string {
	kind, ifaces := "class", "implements"
	if c.Iface {
		kind, ifaces = "interface", "extends"
	}
	l := []string{kind, c.Name}
	if c.Super != "" {
		l = append(l, "extends", c.Super)
	}
	if len(c.Ifaces) > 0 {
		l = append(l, ifaces, strings.Join(c.Ifaces, " , "))
	}
	l = append(l, "{")
	for _, f := range c.Fields {
		kind := map[bool]string{false: "field", true: "static"}[f.Static]
		l = append(l, fmt.Sprint(kind, " ", f.Name, " : ", plainType(f.Type), " ;"))
	}
	for _, m := range c.Methods {
		l = append(l, plainMethod(m))
	}
	return strings.Join(append(l, "}"), " ")
}

func plainType(t api.Type) string {
	switch t.Kind {
	case api.Void:
		return "void"
	case api.Int:
		return "int"
	case api.IntRow:
		return "int [ ]"
	case api.Ref:
		return t.Name
	case api.RefRow:
		return t.Name + " [ ]"
	}
	return "?"
}

func plainMethod(m api.Method) string {
	l := []string{map[bool]string{false: "method", true: "function"}[m.Static], m.Name, "("}
	var types []string
	for _, t := range m.Params {
		types = append(types, plainType(t))
	}
	if len(types) > 0 {
		l = append(l, strings.Join(types, " , "))
	}
	l = append(l, ")", plainType(m.Ret))
	if m.Abstract {
		return strings.Join(append(l, ";"), " ")
	}
	l = append(l, "locals", fmt.Sprint(m.Locals), "{")
	for _, i := range m.Code {
		l = append(l, plainInstr(i))
	}
	for _, c := range m.Catches {
		l = append(l, fmt.Sprint("catch ", c.Name, " ", c.From, " ", c.To, " ", c.At, " ;"))
	}
	return strings.Join(append(l, "}"), " ")
}

func plainInstr(i api.Instr) string {
	for _, row := range instrs() {
		if row.op != i.Op {
			continue
		}
		switch row.has {
		case "n":
			return fmt.Sprint(row.word, " ", i.N, " ;")
		case "a":
			return row.word + " " + i.A + " ;"
		case "ab":
			return row.word + " " + i.A + " " + i.B + " ;"
		}
		return row.word + " ;"
	}
	return "?"
}

// lined makes a text of words with blanks between one with lines.
func lined(text string) string {
	if text == "" {
		return ""
	}
	return strings.NewReplacer("{ ", "{\n", "} ", "}\n", "; ", ";\n").Replace(text + " ")
}

// standsFor tells whether a text of layer 2 stands for p: whether p is what is read, once it is written plainly.
// known is false where the text is too long to be read.
func standsFor(p api.Program) (stands, known bool) {
	text := plain(p)
	if len(text) > api.MaxText {
		return false, false
	}
	again, _, e := parse.Program([]byte(text))
	return e == api.OK && same(again, p), true
}

// same tells whether two programs are the same; nil and an empty list are.
func same(p, q api.Program) bool {
	return reflect.DeepEqual(tidied(p), tidied(q))
}

// tidied answers a copy whose empty lists are nil, and which shares nothing with p.
func tidied(p api.Program) api.Program {
	return copied(reflect.ValueOf(p), func(l reflect.Value) reflect.Value {
		if l.Len() == 0 {
			return reflect.Zero(l.Type())
		}
		return l
	}).Interface().(api.Program)
}

// copied answers a deep copy; each new list goes through f.
func copied(v reflect.Value, f func(reflect.Value) reflect.Value) reflect.Value {
	to := reflect.New(v.Type()).Elem()
	switch v.Kind() {
	case reflect.Struct:
		for i := range v.NumField() {
			to.Field(i).Set(copied(v.Field(i), f))
		}
	case reflect.Slice:
		l := reflect.MakeSlice(v.Type(), v.Len(), v.Len())
		for i := range v.Len() {
			l.Index(i).Set(copied(v.Index(i), f))
		}
		to.Set(f(l))
	default:
		to.Set(v)
	}
	return to
}
