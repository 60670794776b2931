package lattice

import (
	"slices"
	"strings"
	"testing"

	"delver/api"
	"delver/parse"
)

// plainStanding writes down the classes that always stand, each with its super.
const plainStanding = "Object: Error:Object NullError:Error RangeError:Error CastError:Error NumError:Error SizeError:Error DepthError:Error"

// plainModel is what chapter 4 says of a program that is taken, worked out by all pairs of names.
type plainModel struct {
	names []string // in All's order
	iface map[string]bool
	above map[[2]string]bool // the second one is above the first one
}

func plainOf(p api.Program) plainModel {
	m := plainModel{iface: map[string]bool{}, above: map[[2]string]bool{}}
	for _, s := range strings.Fields(plainStanding) {
		name, super, _ := strings.Cut(s, ":")
		m.names = append(m.names, name)
		m.above[[2]string{name, super}] = super != ""
	}
	for _, c := range p.Classes {
		m.names = append(m.names, c.Name)
		m.iface[c.Name] = c.Iface
		m.above[[2]string{c.Name, c.Super}] = c.Super != ""
		for _, i := range c.Ifaces {
			m.above[[2]string{c.Name, i}] = true
		}
	}
	for _, name := range m.names {
		m.above[[2]string{name, name}] = true
		m.above[[2]string{name, "Object"}] = true
	}
	for _, by := range m.names {
		for _, from := range m.names {
			for _, to := range m.names {
				if m.above[[2]string{from, by}] && m.above[[2]string{by, to}] {
					m.above[[2]string{from, to}] = true
				}
			}
		}
	}
	return m
}

func (m plainModel) under(a, b string) bool { return m.above[[2]string{a, b}] }

// right tells what Right must.
func (m plainModel) right(t api.Type) bool {
	named := t.Kind == api.Ref || t.Kind == api.RefRow
	bare := t.Kind == api.Int || t.Kind == api.IntRow || t.Kind == api.Null || t.Kind == api.Nothing
	return named && slices.Contains(m.names, t.Name) || bare && t.Name == ""
}

// fits tells what Fits must: for each kind to, what fits it.
func (m plainModel) fits(from, to api.Type) bool {
	if !m.right(from) || !m.right(to) {
		return false
	}
	switch to.Kind {
	case api.Int:
		return from.Kind == api.Int
	case api.Null:
		return from.Kind == api.Null
	case api.IntRow:
		return from.Kind == api.Null || from.Kind == api.IntRow
	case api.RefRow:
		return from.Kind == api.Null || from.Kind == api.RefRow && from.Name == to.Name
	case api.Ref:
		row := from.Kind == api.IntRow || from.Kind == api.RefRow
		return from.Kind == api.Null || row && to.Name == "Object" || from.Kind == api.Ref && m.under(from.Name, to.Name)
	}
	return true
}

// meet answers what Meet must: of all right types but the rows and the interfaces that are neither, the one that both
// fit and that fits each other one of these.
func (m plainModel) meet(a, b api.Type) (api.Type, api.Errno) {
	if !m.right(a) || !m.right(b) {
		return api.Type{}, api.ErrType
	}
	l := []api.Type{a, b, {Kind: api.Nothing}}
	for _, name := range m.names {
		if !m.iface[name] {
			l = append(l, api.Type{Kind: api.Ref, Name: name})
		}
	}
	l = slices.DeleteFunc(l, func(t api.Type) bool { return !m.fits(a, t) || !m.fits(b, t) })
	least := slices.IndexFunc(l, func(t api.Type) bool {
		return !slices.ContainsFunc(l, func(o api.Type) bool { return !m.fits(t, o) })
	})
	return l[least], api.OK
}

// types answers all right types of a program.
func (m plainModel) types() []api.Type {
	l := []api.Type{{Kind: api.Int}, {Kind: api.IntRow}, {Kind: api.Null}, {Kind: api.Nothing}}
	for _, name := range m.names {
		l = append(l, api.Type{Kind: api.Ref, Name: name}, api.Type{Kind: api.RefRow, Name: name})
	}
	return l
}

// wrongTypes answers types that are right in no program of the tests, but for their names nearly so.
func wrongTypes() []api.Type {
	l := []api.Type{{}, {Kind: api.Void}, {Kind: api.Void, Name: "A"}, {Name: "Object"}, {Name: "A"}}
	for _, kind := range []int{api.Int, api.IntRow, api.Null, api.Nothing} {
		for _, name := range []string{"A", "Object", "X", " ", "int"} {
			l = append(l, api.Type{Kind: kind, Name: name})
		}
	}
	for _, name := range []string{"", "X", "object", "Objec", "Objects", "Object ", " A", "A,B", "A[]", "int", "void", "null", "class", "\x00", "é", strings.Repeat("n", 10000)} {
		l = append(l, api.Type{Kind: api.Ref, Name: name}, api.Type{Kind: api.RefRow, Name: name})
	}
	for _, kind := range []int{-1, -api.Ref, api.Nothing + 1, 99, 1 << 32, 1<<32 + api.Int, 1<<63 - 1, -1 << 63} {
		l = append(l, api.Type{Kind: kind}, api.Type{Kind: kind, Name: "Object"}, api.Type{Kind: kind, Name: "A"})
	}
	return l
}

// someWrong answers a few types that are wrong, for tests that ask of every pair.
func someWrong() []api.Type {
	return []api.Type{{}, {Kind: api.Void}, {Kind: api.Int, Name: "Object"}, {Kind: api.Null, Name: "A"}, {Kind: api.Ref}, {Kind: api.Ref, Name: "X"}, {Kind: api.RefRow, Name: "X"}, {Kind: api.Nothing + 1}}
}

// read answers the program that a text stands for.
func read(t *testing.T, text string) api.Program {
	t.Helper()
	p, at, e := parse.Program([]byte(text))
	if e != api.OK {
		t.Fatalf("%d at %d in %q", e, at, text)
	}
	return p
}

// typeOf answers the type that a word stands for: int, int[], null, nothing, a name, a name with [] behind it.
func typeOf(word string) api.Type {
	name, row := strings.CutSuffix(word, "[]")
	switch {
	case word == "int":
		return api.Type{Kind: api.Int}
	case word == "int[]":
		return api.Type{Kind: api.IntRow}
	case word == "null":
		return api.Type{Kind: api.Null}
	case word == "nothing":
		return api.Type{Kind: api.Nothing}
	case row:
		return api.Type{Kind: api.RefRow, Name: name}
	}
	return api.Type{Kind: api.Ref, Name: word}
}

// checkPair holds the calls to what the model says of two types, in both orders.
func checkPair(t *testing.T, p api.Program, m plainModel, a, b api.Type) {
	t.Helper()
	if got, want := Fits(p, a, b), m.fits(a, b); got != want {
		t.Errorf("Fits %v %v: %v: %+v", a, b, got, p)
	}
	want, fault := m.meet(a, b)
	if got, e := Meet(p, a, b); got != want || e != fault {
		t.Errorf("Meet %v %v: %v %d, not %v %d: %+v", a, b, got, e, want, fault, p)
	}
}

// checkTaken holds that each call answers as the model of p says.
func checkTaken(t *testing.T, p api.Program) {
	t.Helper()
	m := plainOf(p)
	l := append(m.types(), someWrong()...)
	for _, a := range l {
		if got := Right(p, a); got != m.right(a) {
			t.Errorf("Right %v: %v: %+v", a, got, p)
		}
		for _, b := range l {
			checkPair(t, p, m, a, b)
		}
	}
}

// checkRefused holds that nothing is right, fits or meets.
func checkRefused(t *testing.T, p api.Program) {
	t.Helper()
	l := append(plainOf(p).types(), someWrong()...)
	for k, a := range l {
		if Right(p, a) {
			t.Errorf("Right %v: %+v", a, p)
		}
		for _, b := range []api.Type{a, {Kind: api.Nothing}, {Kind: api.Ref, Name: "Object"}, l[(k*7+3)%len(l)]} {
			if Fits(p, a, b) || Fits(p, b, a) {
				t.Errorf("Fits %v %v: %+v", a, b, p)
			}
			if got, e := Meet(p, a, b); got != (api.Type{}) || e != api.ErrType {
				t.Errorf("Meet %v %v: %v %d: %+v", a, b, got, e, p)
			}
		}
	}
}
