package layout

import (
	"slices"
	"strings"
	"testing"

	"delver/api"
	"delver/hier"
	"delver/parse"
)

// read answers the program that a text stands for.
func read(t *testing.T, text string) api.Program {
	t.Helper()
	p, at, e := parse.Program([]byte(text))
	if e != api.OK {
		t.Fatalf("%d at %d in %q", e, at, text)
	}
	return p
}

// plainModel is what the chapter says of a program that hier.Check takes, by names. Who is above whom hier is asked once,
// ahead, and of bare classes: tests ask many programs.
type plainModel struct {
	all   []api.Class
	super map[string]string // of those that have one
	above map[[2]string]bool
}

func plainOf(p api.Program) plainModel {
	m := plainModel{all: hier.All(p), super: map[string]string{}, above: map[[2]string]bool{}}
	bare := api.Program{}
	for _, c := range p.Classes {
		bare.Classes = append(bare.Classes, api.Class{Name: c.Name, Iface: c.Iface, Super: c.Super, Ifaces: c.Ifaces})
	}
	for _, a := range m.all {
		if super, has := hier.Super(bare, a.Name); has {
			m.super[a.Name] = super
		}
		for _, b := range m.all {
			if b.Iface {
				m.above[[2]string{a.Name, b.Name}] = hier.Under(bare, a.Name, b.Name)
			}
		}
	}
	return m
}

// get answers the class of that name, which is there.
func (m plainModel) get(name string) api.Class {
	return m.all[slices.IndexFunc(m.all, func(c api.Class) bool { return c.Name == name })]
}

func (m plainModel) has(name string) bool {
	return slices.ContainsFunc(m.all, func(c api.Class) bool { return c.Name == name })
}

// row answers a class' row.
func (m plainModel) row(class string) []api.Class {
	l := []api.Class{m.get(class)}
	for super, has := m.super[class]; has; super, has = m.super[super] {
		l = append(l, m.get(super))
	}
	return l
}

// slots answers what Slots must, of a class.
func (m plainModel) slots(class string) []api.Slot {
	var l []api.Slot
	row := m.row(class)
	for k := len(row) - 1; k >= 0; k-- {
		for _, f := range row[k].Fields {
			if !f.Static {
				l = append(l, api.Slot{Owner: row[k].Name, Name: f.Name, Type: f.Type})
			}
		}
	}
	return l
}

// statics answers what Statics must.
func (m plainModel) statics() []api.Slot {
	var l []api.Slot
	for _, c := range m.all {
		for _, f := range c.Fields {
			if f.Static {
				l = append(l, api.Slot{Owner: c.Name, Name: f.Name, Type: f.Type})
			}
		}
	}
	return l
}

// own answers the first method of that name of a class, an interface, itself.
func own(c api.Class, name string) (api.Method, bool) {
	for _, f := range c.Methods {
		if f.Name == name {
			return f, true
		}
	}
	return api.Method{}, false
}

// method answers what Method must, of a class.
func (m plainModel) method(class, name string) (string, api.Method, bool) {
	for _, c := range m.row(class) {
		if f, ok := own(c, name); ok {
			return c.Name, f, true
		}
	}
	return "", api.Method{}, false
}

// call answers what Call must, of one of All.
func (m plainModel) call(class, name string) (api.Method, bool) {
	f, ok := m.signature(class, name)
	if !ok || f.Static {
		return api.Method{}, false
	}
	return f, true
}

func (m plainModel) signature(class, name string) (api.Method, bool) {
	c := m.get(class)
	if !c.Iface {
		if _, f, ok := m.method(class, name); ok {
			return f, true
		}
	}
	return m.through(c, name)
}

// through looks through the interfaces, one by one, each as often as it is there.
func (m plainModel) through(c api.Class, name string) (api.Method, bool) {
	row := []api.Class{c}
	if !c.Iface {
		row = m.row(c.Name)
	} else if f, ok := own(c, name); ok {
		return f, true
	}
	for _, c := range row {
		for _, i := range c.Ifaces {
			if f, ok := m.through(m.get(i), name); ok {
				return f, true
			}
		}
	}
	return api.Method{}, false
}

// plainCheck answers what Check must.
func plainCheck(p api.Program) api.Errno {
	if e := hier.Check(p); e != api.OK {
		return e
	}
	m := plainOf(p)
	for _, c := range p.Classes {
		if e := m.alone(c); e != api.OK {
			return e
		}
	}
	for _, c := range p.Classes {
		if e := m.ofSuper(c); e != api.OK && !c.Iface {
			return e
		}
	}
	for _, c := range p.Classes {
		for _, i := range m.all {
			if c.Iface || !i.Iface || !m.above[[2]string{c.Name, i.Name}] {
				continue
			}
			if e := m.ofIface(c, i); e != api.OK {
				return e
			}
		}
	}
	return api.OK
}

// alone answers the fault of a class' members by themselves.
func (m plainModel) alone(c api.Class) api.Errno {
	form, none := c.Iface && len(c.Fields) > 0, false
	fields, methods := map[string]int{}, map[string]int{}
	for _, f := range c.Fields {
		fields[f.Name]++
		form = form || f.Type.Kind == api.Void
		none = none || m.names(f.Type)
	}
	for _, f := range c.Methods {
		methods[f.Name]++
		if c.Iface {
			form = form || !f.Abstract || f.Static
		} else {
			form = form || f.Abstract
		}
		for _, t := range f.Params {
			form = form || t.Kind == api.Void
			none = none || m.names(t)
		}
		none = none || m.names(f.Ret)
	}
	switch {
	case form:
		return api.ErrForm
	case len(fields) < len(c.Fields), len(methods) < len(c.Methods):
		return api.ErrTwice
	case none:
		return api.ErrNone
	}
	return api.OK
}

// names tells whether a type names what is none of All.
func (m plainModel) names(t api.Type) bool {
	return (t.Kind == api.Ref || t.Kind == api.RefRow) && !m.has(t.Name)
}

// ofSuper answers the fault of a class against its super.
func (m plainModel) ofSuper(c api.Class) api.Errno {
	super, has := m.super[c.Name]
	if !has {
		return api.OK
	}
	for _, f := range c.Fields {
		for _, s := range m.slots(super) {
			if !f.Static && f.Name == s.Name {
				return api.ErrTwice
			}
		}
	}
	for _, f := range c.Methods {
		_, g, ok := m.method(super, f.Name)
		if ok && (f.Static != g.Static || !slices.Equal(f.Params, g.Params) || f.Ret != g.Ret) {
			return api.ErrType
		}
	}
	return api.OK
}

// ofIface answers the fault of a class against an interface above it.
func (m plainModel) ofIface(c, i api.Class) api.Errno {
	for _, f := range i.Methods {
		_, g, ok := m.method(c.Name, f.Name)
		if !ok {
			return api.ErrNone
		}
		if g.Static || !slices.Equal(f.Params, g.Params) || f.Ret != g.Ret {
			return api.ErrType
		}
	}
	return api.OK
}

func sameMethod(a, b api.Method) bool {
	return a.Name == b.Name && a.Static == b.Static && a.Abstract == b.Abstract && slices.Equal(a.Params, b.Params) &&
		a.Ret == b.Ret && a.Locals == b.Locals && slices.Equal(a.Code, b.Code) && slices.Equal(a.Catches, b.Catches)
}

// otherNames answers names that are none of a program's.
func otherNames() []string {
	return []string{"", "X", "object", "Objec", "Object ", "A B", "int", "void", "class", "A[]", "\x00", "é", strings.Repeat("n", 1000)}
}

// memberNames answers each name of a field, a method of a program, and some that are none.
func memberNames(p api.Program) []string {
	l := []string{"", "nobody", "int", "f ", strings.Repeat("n", 1000)}
	for _, c := range p.Classes {
		l = append(l, c.Name)
		for _, f := range c.Fields {
			l = append(l, f.Name)
		}
		for _, f := range c.Methods {
			l = append(l, f.Name)
		}
	}
	slices.Sort(l)
	return slices.Compact(l)
}

// checkRefused holds that Check refuses a program so, and that the other calls tell nothing of it.
func checkRefused(t *testing.T, what any, p api.Program, want api.Errno) {
	t.Helper()
	if e := Check(p); e != want {
		t.Errorf("%v: Check: %d, not %d", what, e, want)
	}
	if l, e := Statics(p); len(l) != 0 || e != want {
		t.Errorf("%v: Statics: %v %d", what, l, e)
	}
	classes := otherNames()[:3]
	for _, c := range hier.All(p) {
		classes = append(classes, c.Name)
	}
	names := memberNames(p)
	for k, class := range classes {
		if l, e := Slots(p, class); len(l) != 0 || e != want {
			t.Errorf("%v: Slots %q: %v %d", what, class, l, e)
		}
		// in turn: all pairs would be many
		for _, name := range []string{names[k%len(names)], names[(k*7+3)%len(names)]} {
			if o, m, ok := Method(p, class, name); ok || o != "" || !sameMethod(m, api.Method{}) {
				t.Errorf("%v: Method %q %q: %q %v %v", what, class, name, o, m, ok)
			}
			if m, ok := Call(p, class, name); ok || !sameMethod(m, api.Method{}) {
				t.Errorf("%v: Call %q %q: %v %v", what, class, name, m, ok)
			}
		}
	}
}

// checkTaken holds that Check takes a program, and that each call answers as the model of it says, for each class and
// each name.
func checkTaken(t *testing.T, what any, p api.Program) {
	t.Helper()
	if e := Check(p); e != api.OK {
		t.Fatalf("%v: Check: %d", what, e)
	}
	m := plainOf(p)
	if l, e := Statics(p); !slices.Equal(l, m.statics()) || e != api.OK {
		t.Errorf("%v: Statics: %v %d, not %v", what, l, e, m.statics())
	}
	names := memberNames(p)
	for _, c := range m.all {
		for _, name := range names {
			want, ok := m.call(c.Name, name)
			if f, is := Call(p, c.Name, name); is != ok || !sameMethod(f, want) {
				t.Errorf("%v: Call %q %q: %v %v, not %v", what, c.Name, name, f, is, want)
			}
		}
		if c.Iface {
			checkNoClass(t, what, p, c.Name, names)
			continue
		}
		if l, e := Slots(p, c.Name); !slices.Equal(l, m.slots(c.Name)) || e != api.OK {
			t.Errorf("%v: Slots %q: %v %d, not %v", what, c.Name, l, e, m.slots(c.Name))
		}
		for _, name := range names {
			owner, want, ok := m.method(c.Name, name)
			if o, f, is := Method(p, c.Name, name); o != owner || is != ok || !sameMethod(f, want) {
				t.Errorf("%v: Method %q %q: %q %v %v, not %q %v", what, c.Name, name, o, f, is, owner, want)
			}
		}
	}
	for _, class := range otherNames() {
		checkNoClass(t, what, p, class, names[:3])
		for _, name := range names[:3] {
			if f, is := Call(p, class, name); is || !sameMethod(f, api.Method{}) {
				t.Errorf("%v: Call %q %q: %v", what, class, name, f)
			}
		}
	}
}

// checkNoClass holds that Slots and Method know no class of that name, in a program that Check takes.
func checkNoClass(t *testing.T, what any, p api.Program, class string, names []string) {
	t.Helper()
	if l, e := Slots(p, class); len(l) != 0 || e != api.ErrNone {
		t.Errorf("%v: Slots %q: %v %d", what, class, l, e)
	}
	for _, name := range names {
		if o, f, is := Method(p, class, name); is || o != "" || !sameMethod(f, api.Method{}) {
			t.Errorf("%v: Method %q %q: %q %v", what, class, name, o, f)
		}
	}
}

// checkAsPlain holds a program against the model, whatever Check says of it.
func checkAsPlain(t *testing.T, p api.Program) api.Errno {
	t.Helper()
	e := plainCheck(p)
	if e == api.OK {
		checkTaken(t, p, p)
	} else {
		checkRefused(t, p, p, e)
	}
	return e
}
