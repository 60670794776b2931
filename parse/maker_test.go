package parse

import (
	"math/rand/v2"
	"strconv"

	"delver/api"
)

// maker makes programs of all sorts, and the words that write them.
type maker struct {
	rng   *rand.Rand
	words []string
}

func (m *maker) say(words ...string) { m.words = append(m.words, words...) }

func (m *maker) coin() bool { return m.rng.IntN(2) == 0 }

// upTo answers a number from 0 to most, the ends more often than the rest.
func (m *maker) upTo(most int) int {
	switch m.rng.IntN(4) {
	case 0:
		return 0
	case 1:
		return most
	}
	return m.rng.IntN(most + 1)
}

// few answers how many there are of something.
func (m *maker) few(most int) int {
	if m.rng.IntN(8) == 0 {
		return most
	}
	return m.rng.IntN(min(most, 3) + 1)
}

func (m *maker) name() string {
	names := []string{"A", "B", "C", "I", "J", "x", "y", "nop", "throw", "const", "_", "Object", "int_", "abcdefghijklmnopqrst"}
	name := names[m.rng.IntN(len(names))]
	m.say(name)
	return name
}

func (m *maker) number(most int) int {
	n := m.upTo(most)
	m.say(strconv.Itoa(n))
	return n
}

func (m *maker) program() api.Program {
	var p api.Program
	for range m.few(api.MaxClasses) {
		p.Classes = append(p.Classes, m.class())
	}
	return p
}

func (m *maker) class() api.Class {
	c := api.Class{Iface: m.coin()}
	if c.Iface {
		m.say("interface")
	} else {
		m.say("class")
	}
	c.Name = m.name()
	if !c.Iface && m.coin() {
		m.say("extends")
		c.Super = m.name()
	}
	for i := range m.rng.IntN(5) {
		switch {
		case i > 0:
			m.say(",")
		case c.Iface:
			m.say("extends")
		default:
			m.say("implements")
		}
		c.Ifaces = append(c.Ifaces, m.name())
	}
	m.say("{")
	for fields, methods := m.few(api.MaxFields), m.few(api.MaxMethods); fields+methods > 0; {
		if m.rng.IntN(fields+methods) < fields {
			fields--
			c.Fields = append(c.Fields, m.field())
		} else {
			methods--
			c.Methods = append(c.Methods, m.method())
		}
	}
	m.say("}")
	return c
}

func (m *maker) field() api.Field {
	f := api.Field{Static: m.coin()}
	if f.Static {
		m.say("static")
	} else {
		m.say("field")
	}
	f.Name = m.name()
	m.say(":")
	f.Type = m.typed()
	m.say(";")
	return f
}

func (m *maker) typed() api.Type {
	t := api.Type{Kind: api.Void + m.rng.IntN(5)}
	switch t.Kind {
	case api.Void:
		m.say("void")
	case api.Int:
		m.say("int")
	case api.IntRow:
		m.say("int", "[", "]")
	case api.Ref:
		t.Name = m.name()
	case api.RefRow:
		t.Name = m.name()
		m.say("[", "]")
	}
	return t
}

func (m *maker) method() api.Method {
	f := api.Method{Static: m.coin()}
	if f.Static {
		m.say("function")
	} else {
		m.say("method")
	}
	f.Name = m.name()
	m.say("(")
	for i := range m.rng.IntN(api.MaxParams + 1) {
		if i > 0 {
			m.say(",")
		}
		f.Params = append(f.Params, m.typed())
	}
	m.say(")")
	f.Ret = m.typed()
	if f.Abstract = m.coin(); f.Abstract {
		m.say(";")
		return f
	}
	m.say("locals")
	f.Locals = m.number(api.MaxLocals)
	m.say("{")
	for range m.few(api.MaxCode) {
		f.Code = append(f.Code, m.instr())
	}
	for range m.rng.IntN(api.MaxCatches + 1) {
		m.say("catch")
		f.Catches = append(f.Catches, api.Catch{Name: m.name(), From: m.number(api.MaxCode), To: m.number(api.MaxCode), At: m.number(api.MaxCode)})
		m.say(";")
	}
	m.say("}")
	return f
}

func (m *maker) instr() api.Instr {
	i := api.Instr{Op: m.rng.IntN(api.Ops)}
	m.say(Word(i.Op))
	switch {
	case i.Op == api.OpConst:
		i.N = m.upTo(1<<32-1) + api.Least
		m.say(strconv.Itoa(i.N))
	case i.Op == api.OpLoad, i.Op == api.OpStore:
		i.N = m.number(api.MaxLocals - 1)
	case i.Op >= api.OpGoto && i.Op <= api.OpOther:
		i.N = m.number(api.MaxCode - 1)
	case i.Op == api.OpNew, i.Op == api.OpRefs, i.Op == api.OpIs, i.Op == api.OpCast:
		i.A = m.name()
	case i.Op >= api.OpGet && i.Op <= api.OpPuts, i.Op == api.OpCall, i.Op == api.OpFunc:
		i.A = m.name()
		i.B = m.name()
	}
	m.say(";")
	return i
}
