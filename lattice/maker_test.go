package lattice

import (
	"math/rand/v2"
	"slices"
	"strconv"

	"delver/api"
)

// maker makes programs of all sorts.
type maker struct {
	*rand.Rand
}

func (m maker) coin() bool { return m.IntN(2) == 0 }

func (m maker) one(l []string) string { return l[m.IntN(len(l))] }

// sound makes a program that layout.Check takes, of at most so many classes: each comes of such as were made ahead of it,
// and then they are mixed. Each class has the one method that interfaces ask for.
func (m maker) sound(most int) api.Program {
	supers := []string{"", "Object", "Error", "NullError", "SizeError"}
	var ifaces []string
	var p api.Program
	for k := range m.IntN(most + 1) {
		c := api.Class{Name: "C" + strconv.Itoa(k), Iface: m.IntN(3) == 0}
		if len(ifaces) > 0 {
			for range m.IntN(4) {
				c.Ifaces = append(c.Ifaces, m.one(ifaces))
			}
		}
		if c.Iface {
			ifaces = append(ifaces, c.Name)
			if m.coin() {
				c.Methods = []api.Method{{Name: "f", Abstract: true, Ret: api.Type{Kind: api.Int}}}
			}
		} else {
			c.Super = m.one(supers)
			supers = append(supers, c.Name, c.Name, c.Name)
			c = m.withMembers(c)
		}
		p.Classes = append(p.Classes, c)
	}
	m.Shuffle(len(p.Classes), func(i, j int) { p.Classes[i], p.Classes[j] = p.Classes[j], p.Classes[i] })
	return p
}

// withMembers answers a class with members, some of them named as classes are.
func (m maker) withMembers(c api.Class) api.Class {
	if m.coin() {
		c.Fields = append(c.Fields, api.Field{Name: "x" + c.Name, Type: api.Type{Kind: api.Ref, Name: c.Name}})
	}
	if m.coin() {
		c.Fields = append(c.Fields, api.Field{Name: "X", Type: api.Type{Kind: api.RefRow, Name: "Object"}, Static: true})
	}
	body := []api.Instr{{Op: api.OpConst, N: m.IntN(100)}, {Op: api.OpRet}}
	c.Methods = append(c.Methods, api.Method{Name: "f", Ret: api.Type{Kind: api.Int}, Locals: 1, Code: body})
	return c
}

// faults are ways to make a program that is taken one that layers 3, 4 and 5 refuse.
func faults() []func(api.Class) api.Class {
	num := api.Type{Kind: api.Int}
	withField := func(f api.Field) func(api.Class) api.Class {
		return func(c api.Class) api.Class {
			c.Fields = append(slices.Clip(c.Fields), f)
			return c
		}
	}
	withMethod := func(f api.Method) func(api.Class) api.Class {
		return func(c api.Class) api.Class {
			c.Methods = append(slices.Clip(c.Methods), f)
			return c
		}
	}
	return []func(api.Class) api.Class{
		func(c api.Class) api.Class { c.Name = "int"; return c },
		func(c api.Class) api.Class { c.Ifaces = []string{""}; return c },
		withField(api.Field{Name: "y", Type: api.Type{Kind: api.Null}}),
		withMethod(api.Method{Name: "g", Ret: num, Code: []api.Instr{{Op: api.Ops}}}),
		func(c api.Class) api.Class { c.Name = "Error"; return c },
		func(c api.Class) api.Class { c.Ifaces = []string{"X"}; return c },
		func(c api.Class) api.Class { c.Ifaces = []string{"Object"}; return c },
		func(c api.Class) api.Class { c.Iface, c.Super, c.Ifaces = true, "", []string{c.Name}; return c },
		withField(api.Field{Name: "y", Type: api.Type{Kind: api.Void}}),
		withField(api.Field{Name: "y", Type: api.Type{Kind: api.Ref, Name: "X"}}),
		withMethod(api.Method{Name: "g", Ret: api.Type{Kind: api.RefRow, Name: "X"}}),
		withMethod(api.Method{Name: "g", Ret: num, Params: []api.Type{{Kind: api.Void}}}),
		func(c api.Class) api.Class { return withMethod(api.Method{Name: "g", Ret: num, Abstract: !c.Iface})(c) },
	}
}

// spoilt makes a program that is refused.
func (m maker) spoilt(fault func(api.Class) api.Class) api.Program {
	p := m.sound(5)
	for len(p.Classes) == 0 {
		p = m.sound(5)
	}
	c := &p.Classes[m.IntN(len(p.Classes))]
	*c = fault(*c)
	return p
}

// smallPrograms answers all programs of so many classes and interfaces in which each comes of such as stand ahead of it.
func smallPrograms(n int) []api.Program {
	if n == 0 {
		return []api.Program{{}}
	}
	var l []api.Program
	for _, p := range smallPrograms(n - 1) {
		var ifaces []string
		supers := []string{"", "Error"}
		for _, c := range p.Classes {
			if c.Iface {
				ifaces = append(ifaces, c.Name)
			} else {
				supers = append(supers, c.Name)
			}
		}
		for bits := range 1 << len(ifaces) {
			c := api.Class{Name: string(rune('A' + n - 1))}
			for k, name := range ifaces {
				if bits>>k&1 == 1 {
					c.Ifaces = append(c.Ifaces, name)
				}
			}
			for _, c.Super = range supers {
				l = append(l, api.Program{Classes: append(slices.Clip(p.Classes), c)})
			}
			c.Iface, c.Super = true, ""
			l = append(l, api.Program{Classes: append(slices.Clip(p.Classes), c)})
		}
	}
	return l
}
