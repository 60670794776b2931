package hier

import (
	"maps"
	"slices"
	"strings"
	"testing"

	"delver/api"
	"delver/parse"
	"delver/show"
)

// plainStanding writes down the classes that always stand, each ahead of what it comes of.
const plainStanding = "Object: Error:Object NullError:Error RangeError:Error CastError:Error NumError:Error SizeError:Error DepthError:Error"

// plainModel is what the chapter says of a program, worked out by all pairs of names: steps from one name to another one, first one by one, then closed.
type plainModel struct {
	names []string // in All's order
	iface map[string]bool
	super map[string]string // of those that have one
	steps map[[2]string]bool
}

// plainOf answers the model of a program in which no two have one name.
func plainOf(p api.Program) plainModel {
	m := plainModel{iface: map[string]bool{}, super: map[string]string{}, steps: map[[2]string]bool{}}
	for _, s := range strings.Fields(plainStanding) {
		name, super, _ := strings.Cut(s, ":")
		m.names = append(m.names, name)
		if super != "" {
			m.super[name] = super
		}
	}
	for _, c := range p.Classes {
		m.names = append(m.names, c.Name)
		m.iface[c.Name] = c.Iface
		if !c.Iface {
			m.super[c.Name] = c.Super
			if c.Super == "" {
				m.super[c.Name] = "Object"
			}
		}
		for _, i := range c.Ifaces {
			m.steps[[2]string{c.Name, i}] = true
		}
	}
	for name, super := range m.super {
		m.steps[[2]string{name, super}] = true
	}
	return m
}

// closed answers the model with all steps that several steps make.
func (m plainModel) closed() plainModel {
	m.steps = maps.Clone(m.steps)
	for _, by := range m.names {
		for _, from := range m.names {
			for _, to := range m.names {
				if m.steps[[2]string{from, by}] && m.steps[[2]string{by, to}] {
					m.steps[[2]string{from, to}] = true
				}
			}
		}
	}
	return m
}

// under tells what Under must, of a closed model.
func (m plainModel) under(a, b string) bool {
	if !slices.Contains(m.names, a) || !slices.Contains(m.names, b) {
		return false
	}
	return a == b || b == "Object" || m.steps[[2]string{a, b}]
}

// plainCheck answers what Check must.
func plainCheck(p api.Program) api.Errno {
	if e := show.Check(p); e != api.OK {
		return e
	}
	m := plainOf(p)
	sorted := slices.Sorted(slices.Values(m.names))
	if len(slices.Compact(sorted)) < len(m.names) {
		return api.ErrTwice
	}
	for _, c := range p.Classes {
		for _, i := range c.Ifaces {
			if !m.iface[i] {
				return api.ErrNone
			}
		}
		if super, has := m.super[c.Name]; has && (m.iface[super] || !slices.Contains(m.names, super)) {
			return api.ErrNone
		}
	}
	m = m.closed()
	for _, name := range m.names {
		if m.steps[[2]string{name, name}] {
			return api.ErrRing
		}
	}
	return api.OK
}

// read answers the program that a text stands for.
func read(t *testing.T, text string) api.Program {
	t.Helper()
	p, at, e := parse.Program([]byte(text))
	if e != api.OK {
		t.Fatalf("%d at %d in %q", e, at, text)
	}
	return p
}

// sameClass tells whether two classes are the same, nil and an empty list too.
func sameClass(a, b api.Class) bool {
	return a.Name == b.Name && a.Iface == b.Iface && a.Super == b.Super && slices.Equal(a.Ifaces, b.Ifaces) &&
		slices.Equal(a.Fields, b.Fields) && slices.EqualFunc(a.Methods, b.Methods, sameMethod)
}

func sameMethod(a, b api.Method) bool {
	return a.Name == b.Name && a.Static == b.Static && a.Abstract == b.Abstract && slices.Equal(a.Params, b.Params) &&
		a.Ret == b.Ret && a.Locals == b.Locals && slices.Equal(a.Code, b.Code) && slices.Equal(a.Catches, b.Catches)
}

// otherNames answers names that are none of a program's.
func otherNames() []string {
	return []string{"", "X", "object", "Objec", "Objects", "Object ", " Object", "A B", "A,I", "int", "void", "class", "A[]", "\x00", "é", strings.Repeat("n", 1000)}
}

// checkRefused holds that Check refuses a program so, and that the calls know nothing of it.
func checkRefused(t *testing.T, what any, p api.Program, want api.Errno) {
	t.Helper()
	if e := Check(p); e != want {
		t.Errorf("%v: Check: %d, not %d", what, e, want)
	}
	checkAll(t, what, p)
	names := append(plainOf(p).names, otherNames()...)
	for _, a := range names {
		if c, ok := Find(p, a); ok || !sameClass(c, api.Class{}) {
			t.Errorf("%v: Find %q: %v %v", what, a, c, ok)
		}
		if s, ok := Super(p, a); ok || s != "" {
			t.Errorf("%v: Super %q: %q %v", what, a, s, ok)
		}
		if l := Kinds(p, a); len(l) != 0 {
			t.Errorf("%v: Kinds %q: %q", what, a, l)
		}
		for _, b := range []string{a, "Object", names[len(names)-1], ""} {
			if Under(p, a, b) || Under(p, b, a) {
				t.Errorf("%v: Under %q %q", what, a, b)
			}
		}
	}
}

// checkAll holds that All answers those that always stand, and the program's own, whole.
func checkAll(t *testing.T, what any, p api.Program) {
	t.Helper()
	var want []api.Class
	for _, s := range strings.Fields(plainStanding) {
		name, super, _ := strings.Cut(s, ":")
		want = append(want, api.Class{Name: name, Super: super})
	}
	want = append(want, p.Classes...)
	if got := All(p); !slices.EqualFunc(got, want, sameClass) {
		t.Errorf("%v: All: %+v, not %+v", what, got, want)
	}
}

// checkTaken holds that Check takes a program, and that each call answers as the model of it says.
func checkTaken(t *testing.T, what any, p api.Program) {
	t.Helper()
	if e := Check(p); e != api.OK {
		t.Fatalf("%v: Check: %d", what, e)
	}
	checkAll(t, what, p)
	m := plainOf(p).closed()
	all := All(p)
	for at, name := range m.names {
		if c, ok := Find(p, name); !ok || !sameClass(c, all[at]) {
			t.Errorf("%v: Find %q: %+v %v", what, name, c, ok)
		}
		want, has := m.super[name]
		if s, ok := Super(p, name); s != want || ok != has {
			t.Errorf("%v: Super %q: %q %v, not %q", what, name, s, ok, want)
		}
		for _, b := range m.names {
			if Under(p, name, b) != m.under(name, b) {
				t.Errorf("%v: Under %q %q: not %v", what, name, b, m.under(name, b))
			}
		}
		if got, want := Kinds(p, name), m.kinds(name); !slices.Equal(got, want) {
			t.Errorf("%v: Kinds %q: %q, not %q", what, name, got, want)
		}
	}
}

// kinds answers what Kinds must, of a closed model.
func (m plainModel) kinds(name string) []string {
	var l []string
	for _, own := range m.names[len(strings.Fields(plainStanding)):] {
		if !m.iface[own] && m.under(own, name) {
			l = append(l, own)
		}
	}
	return l
}

// checkAsPlain holds a program against the model, whatever Check says of it.
func checkAsPlain(t *testing.T, p api.Program) api.Errno {
	t.Helper()
	e := plainCheck(p)
	if e == api.OK {
		checkTaken(t, p, p)
	} else {
		checkRefused(t, p, p, e)
	}
	return e
}
