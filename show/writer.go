package show

import (
	"strconv"

	"delver/api"
	"delver/parse"
)

// writer writes words one behind the other. Whatever it writes of a program that can be
// shown ends with a "}", so that no blank is left over behind the last word.
type writer struct {
	text []byte
}

// say writes words, and behind each what parts it from the next one.
func (w *writer) say(words ...string) {
	for _, word := range words {
		w.text = append(w.text, word...)
		w.text = append(w.text, behind(word))
	}
}

// behind answers the byte that stands behind a word.
func behind(word string) byte {
	switch word {
	case "{", "}", ";":
		return '\n'
	}
	return ' '
}

// comma writes the "," ahead of an item of a list, which the first has not.
func (w *writer) comma(item int) {
	if item > 0 {
		w.say(",")
	}
}

// number writes numbers.
func (w *writer) number(l ...int) {
	for _, n := range l {
		w.say(strconv.Itoa(n))
	}
}

// either answers one word, or the other.
func either(first bool, word, other string) string {
	if first {
		return word
	}
	return other
}

func (w *writer) class(c api.Class) {
	w.say(either(c.Iface, "interface", "class"), c.Name)
	if c.Super != "" {
		w.say("extends", c.Super)
	}
	if len(c.Ifaces) > 0 {
		w.say(either(c.Iface, "extends", "implements"))
	}
	for i, name := range c.Ifaces {
		w.comma(i)
		w.say(name)
	}
	w.say("{")
	for _, f := range c.Fields {
		w.field(f)
	}
	for _, m := range c.Methods {
		w.method(m)
	}
	w.say("}")
}

func (w *writer) field(f api.Field) {
	w.say(either(f.Static, "static", "field"), f.Name, ":")
	w.say(typeWords(f.Type)...)
	w.say(";")
}

func (w *writer) method(m api.Method) {
	w.say(either(m.Static, "function", "method"), m.Name, "(")
	for i, t := range m.Params {
		w.comma(i)
		w.say(typeWords(t)...)
	}
	w.say(")")
	w.say(typeWords(m.Ret)...)
	if m.Abstract {
		w.say(";")
		return
	}
	w.body(m)
}

func (w *writer) body(m api.Method) {
	w.say("locals")
	w.number(m.Locals)
	w.say("{")
	for _, i := range m.Code {
		w.instr(i)
	}
	for _, c := range m.Catches {
		w.say("catch", c.Name)
		w.number(c.From, c.To, c.At)
		w.say(";")
	}
	w.say("}")
}

func (w *writer) instr(i api.Instr) {
	a := argsOf(i.Op)
	w.say(parse.Word(i.Op))
	if a.number {
		w.number(i.N)
	}
	if a.names >= 1 {
		w.say(i.A)
	}
	if a.names >= 2 {
		w.say(i.B)
	}
	w.say(";")
}

// typeWords answers the words of a type.
func typeWords(t api.Type) []string {
	switch t.Kind {
	case api.Void:
		return []string{"void"}
	case api.Int:
		return []string{"int"}
	case api.IntRow:
		return []string{"int", "[", "]"}
	case api.Ref:
		return []string{t.Name}
	case api.RefRow:
		return []string{t.Name, "[", "]"}
	}
	return nil
}
