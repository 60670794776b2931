package layout

import (
	"math/rand/v2"
	"slices"
	"strconv"

	"delver/api"
)

// maker makes programs of all sorts.
type maker struct {
	*rand.Rand
}

func (m maker) coin() bool { return m.IntN(2) == 0 }

func (m maker) one(l []string) string { return l[m.IntN(len(l))] }

// typed makes a type of a field, a parameter.
func (m maker) typed(names []string) api.Type {
	switch m.IntN(4) {
	case 0:
		return api.Type{Kind: api.Int}
	case 1:
		return api.Type{Kind: api.IntRow}
	case 2:
		return api.Type{Kind: api.Ref, Name: m.one(names)}
	}
	return api.Type{Kind: api.RefRow, Name: m.one(names)}
}

// signatures makes four methods of objects and two static ones, without bodies.
func (m maker) signatures(names []string) []api.Method {
	var l []api.Method
	for k, name := range []string{"f", "g", "h", "i", "u", "v"} {
		s := api.Method{Name: name, Static: k > 3, Ret: api.Type{Kind: api.Void}}
		for range m.IntN(api.MaxParams + 1) {
			s.Params = append(s.Params, m.typed(names))
		}
		if m.coin() {
			s.Ret = m.typed(names)
		}
		l = append(l, s)
	}
	return l
}

// filled answers a signature with a body, such as it is.
func (m maker) filled(s api.Method) api.Method {
	s.Locals = m.IntN(api.MaxLocals + 1)
	for range m.IntN(4) {
		s.Code = append(s.Code, api.Instr{Op: api.OpConst, N: m.IntN(1000)})
	}
	for range m.IntN(3) {
		s.Catches = append(s.Catches, api.Catch{Name: "Error", To: m.IntN(api.MaxCode)})
	}
	return s
}

// sound makes a program that Check takes: each comes of such as were made ahead of it, all have the same signatures, and
// then they are mixed.
func (m maker) sound(most int) api.Program {
	n := m.IntN(most + 1)
	names := []string{"Object", "Error", "SizeError"}
	for k := range n {
		names = append(names, "C"+strconv.Itoa(k))
	}
	signatures := m.signatures(names)
	supers := []string{"", "Object", "Error", "DepthError"}
	var ifaces []string
	var p api.Program
	for k := range n {
		c := api.Class{Name: "C" + strconv.Itoa(k), Iface: m.IntN(3) == 0}
		if len(ifaces) > 0 {
			for range m.IntN(3) {
				c.Ifaces = append(c.Ifaces, m.one(ifaces))
			}
		}
		if c.Iface {
			ifaces = append(ifaces, c.Name)
			p.Classes = append(p.Classes, m.withAbstract(c, signatures))
			continue
		}
		c.Super = m.one(supers)
		supers = append(supers, c.Name, c.Name, c.Name)
		c = m.withFields(c, p, names)
		p.Classes = append(p.Classes, m.withMethods(c, p, signatures))
	}
	m.Shuffle(n, func(i, j int) { p.Classes[i], p.Classes[j] = p.Classes[j], p.Classes[i] })
	return p
}

// withAbstract answers an interface with some methods.
func (m maker) withAbstract(c api.Class, signatures []api.Method) api.Class {
	for _, k := range m.Perm(4)[:m.IntN(3)] {
		s := signatures[k]
		s.Params = slices.Clone(s.Params)
		s.Abstract = true
		c.Methods = append(c.Methods, s)
	}
	return c
}

// withFields answers a class with some fields, none of them a slot of those ahead of it.
func (m maker) withFields(c api.Class, ahead api.Program, names []string) api.Class {
	for _, k := range m.Perm(api.MaxFields)[:m.IntN(4)] {
		f := api.Field{Name: "s" + strconv.Itoa(k), Type: m.typed(names), Static: m.coin()}
		if !f.Static && m.coin() {
			f.Name += "of" + c.Name
		} else if hasField(ahead, f.Name) {
			f.Static = true
		}
		c.Fields = append(c.Fields, f)
	}
	return c
}

// hasField tells whether a class has a field of that name.
func hasField(p api.Program, name string) bool {
	return slices.ContainsFunc(p.Classes, func(c api.Class) bool {
		return slices.ContainsFunc(c.Fields, func(f api.Field) bool { return f.Name == name })
	})
}

// withMethods answers a class with some methods, those among them that are asked of it and are not found in its super.
func (m maker) withMethods(c api.Class, ahead api.Program, signatures []api.Method) api.Class {
	ahead.Classes = append(slices.Clip(ahead.Classes), c)
	model := plainOf(ahead)
	for _, k := range m.Perm(len(signatures)) {
		s := signatures[k]
		_, _, found := model.method(c.Name, s.Name)
		asked := slices.ContainsFunc(model.all, func(i api.Class) bool {
			_, is := own(i, s.Name)
			return is && model.above[[2]string{c.Name, i.Name}]
		})
		if asked && !found || m.IntN(3) == 0 {
			s.Params = slices.Clone(s.Params)
			c.Methods = append(c.Methods, m.filled(s))
		}
	}
	return c
}

// bent makes a program that might be taken, most often with one fault or two.
func (m maker) bent() api.Program {
	p := m.sound(7)
	for range 1 + m.IntN(3) {
		if len(p.Classes) > 0 {
			m.bend(&p.Classes[m.IntN(len(p.Classes))])
		}
	}
	return p
}

// bend changes a class in one thing.
func (m maker) bend(c *api.Class) {
	names := []string{"Object", "Error", "X", "C0", "C1", "C2", "C3"}
	switch m.IntN(9) {
	case 0:
		if !c.Iface {
			c.Super = m.one(names)
		}
	case 1:
		c.Ifaces = append(slices.Clip(c.Ifaces), m.one(names))
	case 2:
		if !c.Iface || m.coin() {
			f := api.Field{Name: m.one([]string{"s0", "s1", "s2", "x"}), Type: m.typed(names), Static: m.coin()}
			c.Fields = append(slices.Clip(c.Fields), f)
		}
	case 3:
		if len(c.Fields) > 0 {
			f := &c.Fields[m.IntN(len(c.Fields))]
			f.Type, f.Static = m.perhapsVoid(names), m.coin()
		}
	case 4:
		if len(c.Methods) > 0 {
			c.Methods = slices.Delete(c.Methods, 0, 1)
		}
	default:
		if len(c.Methods) > 0 {
			m.bendMethod(&c.Methods[m.IntN(len(c.Methods))], names)
		}
	}
}

func (m maker) perhapsVoid(names []string) api.Type {
	if m.IntN(4) == 0 {
		return api.Type{Kind: api.Void}
	}
	return m.typed(names)
}

func (m maker) bendMethod(f *api.Method, names []string) {
	switch m.IntN(6) {
	case 0:
		f.Name = m.one([]string{"f", "g", "h", "i", "u", "v", "w"})
	case 1:
		f.Static = !f.Static
	case 2:
		f.Ret = m.perhapsVoid(names)
	case 3:
		if len(f.Params) > 0 {
			f.Params[m.IntN(len(f.Params))] = m.perhapsVoid(names)
		}
	case 4:
		f.Params = append(slices.Clip(f.Params), m.perhapsVoid(names))
	case 5:
		f.Abstract, f.Locals, f.Code, f.Catches = !f.Abstract, 0, nil, nil
	}
}
