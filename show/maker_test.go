package show

import (
	"math/rand/v2"

	"delver/api"
)

// maker makes programs of all sorts that can be shown.
type maker struct {
	*rand.Rand
}

func (m maker) coin() bool { return m.IntN(2) == 0 }

// number answers one from least to most, the ends more often than the rest.
func (m maker) number(least, most int) int {
	switch m.IntN(4) {
	case 0:
		return least
	case 1:
		return most
	}
	return least + m.IntN(most-least+1)
}

func (m maker) name() string {
	names := []string{"A", "B", "I", "x", "nop", "throw", "const", "_", "Object", "int_", "Class", "abcdefghijklmnopqrst"}
	return names[m.IntN(len(names))]
}

// some makes a list, short for the most part, at times as long as may be.
func some[T any](m maker, most int, one func() T) []T {
	n := m.IntN(min(most, 3) + 1)
	if m.IntN(10) == 0 {
		n = most
	}
	var l []T
	for range n {
		l = append(l, one())
	}
	return l
}

func (m maker) program() api.Program {
	return api.Program{Classes: some(m, 10, m.class)}
}

func (m maker) class() api.Class {
	c := api.Class{Name: m.name(), Iface: m.coin(), Ifaces: some(m, 4, m.name), Fields: some(m, 6, m.field), Methods: some(m, 6, m.method)}
	if !c.Iface && m.coin() {
		c.Super = m.name()
	}
	return c
}

func (m maker) field() api.Field {
	return api.Field{Name: m.name(), Type: m.typed(), Static: m.coin()}
}

func (m maker) typed() api.Type {
	l := []api.Type{{Kind: api.Void}, {Kind: api.Int}, {Kind: api.IntRow}, {Kind: api.Ref, Name: m.name()}, {Kind: api.RefRow, Name: m.name()}}
	return l[m.IntN(len(l))]
}

func (m maker) method() api.Method {
	f := api.Method{Name: m.name(), Static: m.coin(), Abstract: m.coin(), Params: some(m, 4, m.typed), Ret: m.typed()}
	if !f.Abstract {
		f.Locals, f.Code, f.Catches = m.number(0, 8), some(m, 48, m.instr), some(m, 4, m.catch)
	}
	return f
}

func (m maker) catch() api.Catch {
	return api.Catch{Name: m.name(), From: m.number(0, 48), To: m.number(0, 48), At: m.number(0, 48)}
}

func (m maker) instr() api.Instr {
	row := instrs()[m.IntN(api.Ops)]
	i := api.Instr{Op: row.op}
	if row.has == "n" {
		i.N = m.number(row.least, row.most)
	}
	if row.has == "a" || row.has == "ab" {
		i.A = m.name()
	}
	if row.has == "ab" {
		i.B = m.name()
	}
	return i
}
