package hier

import (
	"math/rand/v2"
	"slices"
	"strconv"

	"delver/api"
)

// maker makes programs of all sorts.
type maker struct {
	*rand.Rand
}

func (m maker) coin() bool { return m.IntN(2) == 0 }

func (m maker) one(l []string) string { return l[m.IntN(len(l))] }

// sound makes a program that Check takes: each comes of such as were made ahead of it, and then they are mixed.
func (m maker) sound(most int) api.Program {
	supers := []string{"", "", "Object", "Error", "NullError", "DepthError"}
	var ifaces []string
	var p api.Program
	for i := range m.IntN(most + 1) {
		c := api.Class{Name: "C" + strconv.Itoa(i), Iface: m.coin()}
		if len(ifaces) > 0 {
			for range m.IntN(5) {
				c.Ifaces = append(c.Ifaces, m.one(ifaces))
			}
		}
		if c.Iface {
			ifaces = append(ifaces, c.Name)
		} else {
			c.Super = m.one(supers)
			supers = append(supers, c.Name, c.Name)
		}
		p.Classes = append(p.Classes, m.withMembers(c))
	}
	m.Shuffle(len(p.Classes), func(i, j int) { p.Classes[i], p.Classes[j] = p.Classes[j], p.Classes[i] })
	return p
}

// withMembers answers a class with some members, which no call here looks at.
func (m maker) withMembers(c api.Class) api.Class {
	for range m.IntN(3) {
		c.Fields = append(c.Fields, api.Field{Name: m.one([]string{"x", "y"}), Type: api.Type{Kind: api.Ref, Name: "X"}, Static: m.coin()})
	}
	for range m.IntN(3) {
		f := api.Method{Name: "f", Params: []api.Type{{Kind: api.Int}, {Kind: api.RefRow, Name: "C1"}}, Ret: api.Type{Kind: api.Void}, Abstract: m.coin(), Static: m.coin()}
		if !f.Abstract {
			f.Locals, f.Code, f.Catches = 3, []api.Instr{{Op: api.OpLoad, N: 2}, {Op: api.OpGet, A: "X", B: "y"}}, []api.Catch{{Name: "E", To: 1}}
		}
		c.Methods = append(c.Methods, f)
	}
	return c
}

// bent makes a program that might be taken, most often with one fault or two.
func (m maker) bent() api.Program {
	p := m.sound(7)
	if len(p.Classes) == 0 {
		return p
	}
	names := []string{"Object", "Error", "X", "C0", "C1", "C2", "C3", "C4", "C5", "C6"}
	for range 1 + m.IntN(3) {
		c := &p.Classes[m.IntN(len(p.Classes))]
		switch m.IntN(12) {
		case 0:
			c.Name = m.one(names)
		case 1:
			c.Iface = !c.Iface
		case 2:
			c.Name = m.one([]string{"", "int", "9"})
		case 3, 4, 5, 6:
			if c.Iface {
				continue
			}
			c.Super = m.one(names)
		default:
			if len(c.Ifaces) > 0 && m.coin() {
				c.Ifaces[m.IntN(len(c.Ifaces))] = m.one(names)
			} else {
				c.Ifaces = append(slices.Clip(c.Ifaces), m.one(names))
			}
		}
	}
	return p
}
