package show

import (
	"math"
	"math/rand/v2"
	"reflect"
	"slices"
	"strings"
	"testing"

	"delver/api"
)

// wrongNames answers texts that are no fresh name.
func wrongNames() []string {
	kept := strings.Fields("class interface extends implements field static method function locals catch int void")
	return append(kept, "", " ", "9", "9a", "-", "-1", "0", "a-", "a-b", "a b", " a", "a ", "a\n", "\x00", "a\x00", "é", "aé", "\xff", ".", "a.b", "A[]", "A [ ]", "{", "}", ";", ",",
		"A {\n}\nclass B", strings.Repeat("n", api.MaxName+1), strings.Repeat("n", 1000))
}

// rightNames answers fresh names that are nearly none.
func rightNames() []string {
	return []string{"a", "Z", "_", "_9", "nop", "const", "Class", "INT", "int_", "voids", strings.Repeat("n", api.MaxName), strings.Repeat("_", api.MaxName)}
}

// namePlaces answers each place of a program where a name stands.
func namePlaces(p *api.Program) []*string {
	var l []*string
	for i := range p.Classes {
		c := &p.Classes[i]
		l = append(l, &c.Name, &c.Super)
		for i := range c.Ifaces {
			l = append(l, &c.Ifaces[i])
		}
		for i := range c.Fields {
			l = append(l, &c.Fields[i].Name, &c.Fields[i].Type.Name)
		}
		for i := range c.Methods {
			m := &c.Methods[i]
			l = append(l, &m.Name, &m.Ret.Name)
			for i := range m.Params {
				l = append(l, &m.Params[i].Name)
			}
			for i := range m.Code {
				l = append(l, &m.Code[i].A, &m.Code[i].B)
			}
			for i := range m.Catches {
				l = append(l, &m.Catches[i].Name)
			}
		}
	}
	return slices.DeleteFunc(l, func(s *string) bool { return *s == "" })
}

func TestNamesAtEachPlace(t *testing.T) {
	p := read(t, whole)
	for i := range namePlaces(&p) {
		for _, name := range rightNames() {
			p := read(t, whole)
			*namePlaces(&p)[i] = name
			checkShown(t, p, lined(plain(p)))
		}
		for _, name := range wrongNames() {
			p := read(t, whole)
			place := namePlaces(&p)[i]
			if *place = name; isSuperOf(&p, place) && name == "" {
				checkShown(t, p, lined(plain(p)))
				continue
			}
			checkWrong(t, name, p)
		}
	}
}

// isSuperOf tells whether a place is a class' Super, the one name that may be empty.
func isSuperOf(p *api.Program, place *string) bool {
	for i := range p.Classes {
		if place == &p.Classes[i].Super {
			return true
		}
	}
	return false
}

// bent answers a program with a class and an interface, the class changed by f.
func bent(t *testing.T, f func(c *api.Class)) api.Program {
	t.Helper()
	p := read(t, "class A extends B implements I { field x : int ; method f ( int ) A locals 2 { load 1 ; catch E 0 5 1 ; } method g ( ) void ; } interface I extends J { method g ( ) void ; }")
	f(&p.Classes[0])
	return p
}

// checkUpTo holds that there may be from 0 to most of what f puts so many of, and no more.
func checkUpTo(t *testing.T, what string, most int, f func(c *api.Class, n int)) {
	t.Helper()
	for _, n := range []int{0, 1, most - 1, most, most + 1, most + 2, 10*most + 7} {
		p := bent(t, func(c *api.Class) { f(c, n) })
		if n <= most {
			checkShown(t, p, lined(plain(p)))
		} else {
			checkWrong(t, what, p)
		}
	}
}

func TestAsManyAsMayBe(t *testing.T) {
	num, method := api.Type{Kind: api.Int}, api.Method{Name: "f", Ret: api.Type{Kind: api.Int}}
	abstract := method
	abstract.Abstract = true
	checkUpTo(t, "ifaces", 4, func(c *api.Class, n int) { c.Ifaces = slices.Repeat([]string{"I"}, n) })
	checkUpTo(t, "an interface's", 4, func(c *api.Class, n int) { c.Iface, c.Super, c.Ifaces = true, "", slices.Repeat([]string{"I"}, n) })
	checkUpTo(t, "fields", 6, func(c *api.Class, n int) { c.Fields = slices.Repeat([]api.Field{{Name: "x", Type: num}}, n) })
	checkUpTo(t, "statics", 6, func(c *api.Class, n int) {
		c.Fields = slices.Repeat([]api.Field{{Name: "x", Type: num, Static: true}}, n)
	})
	checkUpTo(t, "methods", 6, func(c *api.Class, n int) { c.Methods = slices.Repeat([]api.Method{method}, n) })
	checkUpTo(t, "abstract methods", 6, func(c *api.Class, n int) { c.Methods = slices.Repeat([]api.Method{abstract}, n) })
	checkUpTo(t, "parameters", 4, func(c *api.Class, n int) { c.Methods[0].Params = slices.Repeat([]api.Type{num}, n) })
	checkUpTo(t, "an abstract one's", 4, func(c *api.Class, n int) { c.Methods[1].Params = slices.Repeat([]api.Type{num}, n) })
	checkUpTo(t, "code", 48, func(c *api.Class, n int) { c.Methods[0].Code = make([]api.Instr, n) })
	checkUpTo(t, "catches", 4, func(c *api.Class, n int) { c.Methods[0].Catches = slices.Repeat([]api.Catch{{Name: "E"}}, n) })
	checkUpTo(t, "locals", 8, func(c *api.Class, n int) { c.Methods[0].Locals = n })
}

func TestStaticFieldsAreCountedAmongTheFields(t *testing.T) {
	x, y := api.Field{Name: "x", Type: api.Type{Kind: api.Int}}, api.Field{Name: "y", Type: api.Type{Kind: api.Int}, Static: true}
	p := bent(t, func(c *api.Class) { c.Fields = []api.Field{x, y, x, y, x, y} })
	checkShown(t, p, lined(plain(p)))
	checkWrong(t, "3 and 4", bent(t, func(c *api.Class) { c.Fields = []api.Field{x, y, x, y, x, y, y} }))
}

func TestAsManyClassesAsMayBe(t *testing.T) {
	for _, c := range []api.Class{{Name: "A"}, {Name: "A", Iface: true}} {
		for _, n := range []int{1, 9, 10, 11, 12, 100} {
			p := api.Program{Classes: slices.Repeat([]api.Class{c}, n)}
			if n <= 10 {
				checkShown(t, p, lined(plain(p)))
			} else {
				checkWrong(t, n, p)
			}
		}
	}
	both := slices.Repeat([]api.Class{{Name: "A"}, {Name: "I", Iface: true}}, 6)
	checkShown(t, api.Program{Classes: both[:10]}, lined(plain(api.Program{Classes: both[:10]})))
	checkWrong(t, "both", api.Program{Classes: both[:11]})
}

// Each list is counted by itself: all of them are full here.
func TestAllListsFull(t *testing.T) {
	i := api.Instr{Op: api.OpGet, A: strings.Repeat("a", 20), B: strings.Repeat("b", 20)}
	num := api.Type{Kind: api.Int}
	m := api.Method{Name: "f", Params: []api.Type{num, num, num, num}, Ret: num, Locals: 8, Code: slices.Repeat([]api.Instr{i}, 48), Catches: slices.Repeat([]api.Catch{{Name: "E", From: 48, To: 48, At: 48}}, 4)}
	c := api.Class{Name: "A", Super: "B", Ifaces: strings.Fields("I J K L"), Fields: slices.Repeat([]api.Field{{Name: "x", Type: num}}, 6), Methods: slices.Repeat([]api.Method{m}, 6)}
	checkTooLong(t, api.Program{Classes: slices.Repeat([]api.Class{c}, 10)})
	checkWrong(t, "one class more", api.Program{Classes: slices.Repeat([]api.Class{c}, 11)})
	for i := range c.Methods {
		c.Methods[i].Code = make([]api.Instr, 48)
	}
	checkShown(t, api.Program{Classes: []api.Class{c}}, lined(plain(api.Program{Classes: []api.Class{c}})))
}

func TestNumbersAtEachPlace(t *testing.T) {
	for _, c := range []struct {
		what        string
		place       func(c *api.Class) *int
		least, most int
	}{
		{"locals", func(c *api.Class) *int { return &c.Methods[0].Locals }, 0, 8},
		{"load", func(c *api.Class) *int { return &c.Methods[0].Code[0].N }, 0, 7},
		{"from", func(c *api.Class) *int { return &c.Methods[0].Catches[0].From }, 0, 48},
		{"to", func(c *api.Class) *int { return &c.Methods[0].Catches[0].To }, 0, 48},
		{"at", func(c *api.Class) *int { return &c.Methods[0].Catches[0].At }, 0, 48},
	} {
		for _, n := range []int{c.least, c.least + 1, c.most - 1, c.most} {
			p := bent(t, func(class *api.Class) { *c.place(class) = n })
			checkShown(t, p, lined(plain(p)))
		}
		for _, n := range []int{c.least - 1, c.most + 1, c.least + 1<<32, -1 << 31, 1<<31 - 1, math.MinInt, math.MaxInt} {
			checkWrong(t, c.what, bent(t, func(class *api.Class) { *c.place(class) = n }))
		}
	}
}

func TestAbstractMethodsDoNothing(t *testing.T) {
	for what, f := range map[string]func(m *api.Method){
		"locals":       func(m *api.Method) { m.Locals = 1 },
		"locals below": func(m *api.Method) { m.Locals = -1 },
		"code":         func(m *api.Method) { m.Code = []api.Instr{{Op: api.OpRet}} },
		"catches":      func(m *api.Method) { m.Catches = []api.Catch{{Name: "E"}} },
		"all": func(m *api.Method) {
			m.Locals, m.Code, m.Catches = 8, []api.Instr{{Op: api.OpRet}}, []api.Catch{{Name: "E"}}
		},
	} {
		for _, static := range []bool{false, true} {
			checkWrong(t, what, bent(t, func(c *api.Class) {
				c.Methods[1].Static = static
				f(&c.Methods[1])
			}))
			p := bent(t, func(c *api.Class) {})
			f(&p.Classes[1].Methods[0])
			p.Classes[1].Methods[0].Static = static
			checkWrong(t, what, p)
		}
	}
	checkWrong(t, "a body", bent(t, func(c *api.Class) { c.Methods[0].Abstract = true }))
}

func TestInterfacesHaveNoSuper(t *testing.T) {
	for _, super := range []string{"A", "I", "int", " ", "9"} {
		checkWrong(t, super, api.Program{Classes: []api.Class{{Name: "I", Iface: true, Super: super}}})
		checkWrong(t, super, api.Program{Classes: []api.Class{{Name: "I", Iface: true, Super: super, Ifaces: []string{"J"}}}})
	}
	checkWrong(t, "a class'", bent(t, func(c *api.Class) { c.Iface = true }))
}

// Where the fault stands among the items of a list is all the same.
func TestOneWrongItem(t *testing.T) {
	for i := range 10 {
		l := slices.Repeat([]api.Class{{Name: "A"}}, 10)
		l[i].Name = "int"
		checkWrong(t, i, api.Program{Classes: l})
	}
	for i := range 48 {
		checkWrong(t, i, bent(t, func(c *api.Class) {
			c.Methods[0].Code = make([]api.Instr, 48)
			c.Methods[0].Code[i].N = 1
		}))
	}
	for i := range 6 {
		p := read(t, "class A { "+strings.Repeat("method f ( int , int , int , int ) int ; ", 6)+strings.Repeat("field x : int ; ", 6)+" }")
		p.Classes[0].Methods[i].Params[i%4].Kind = 0
		checkWrong(t, i, p)
		p.Classes[0].Methods[i].Params[i%4].Kind = api.Int
		p.Classes[0].Fields[i].Name = ""
		checkWrong(t, i, p)
	}
}

// What is not said to be wrong here is looked at by other layers alone.
func TestNothingElseIsLookedAt(t *testing.T) {
	for _, text := range []string{
		"class A extends A implements A , A { field x : void ; static x : Nobody ; method f ( void ) void locals 0 { load 7 ; goto 47 ; catch E 48 0 48 ; } method f ( ) A [ ] ; } class A { }",
		"interface I extends I { field x : int ; method f ( ) int locals 1 { } function f ( ) void ; }",
	} {
		checkShown(t, read(t, text), lined(text))
	}
}

// leaves answers each text, number and truth of a program, and each list, to be changed.
func leaves(v reflect.Value) []reflect.Value {
	var l []reflect.Value
	switch v.Kind() {
	case reflect.Struct:
		for i := range v.NumField() {
			l = append(l, leaves(v.Field(i))...)
		}
		return l
	case reflect.Slice:
		for i := range v.Len() {
			l = append(l, leaves(v.Index(i))...)
		}
	}
	return append(l, v)
}

// bend changes one thing.
func bend(m maker, v reflect.Value) {
	switch v.Kind() {
	case reflect.String:
		if names := wrongNames(); m.coin() {
			v.SetString(names[m.IntN(len(names))])
		} else {
			v.SetString(m.name())
		}
	case reflect.Int:
		l := []int{0, 1, 3, 4, 5, 6, 7, 8, 9, 14, 27, 28, 43, 44, 47, 48, 49, -1, api.Least, api.Most, api.Least - 1, api.Most + 1, math.MinInt}
		v.SetInt(int64(l[m.IntN(len(l))]))
	case reflect.Bool:
		v.SetBool(!v.Bool())
	case reflect.Slice:
		switch n := v.Len(); {
		case n > 0 && m.coin():
			v.Set(reflect.AppendSlice(v.Slice3(0, n, n), v))
		case n > 0 && m.coin():
			v.Set(v.Slice(0, n-1))
		default:
			v.Set(reflect.Append(v.Slice3(0, n, n), reflect.Zero(v.Type().Elem())))
		}
	}
}

// Programs that are wrong here or there can be shown just if they are read again from what is written of them.
func TestRandomFaults(t *testing.T) {
	m := maker{rand.New(rand.NewPCG(3, 4))}
	right, wrong := 0, 0
	for range 8000 {
		p := api.Program{Classes: []api.Class{m.class(), m.class()}}
		for range 1 + m.IntN(2) {
			l := leaves(reflect.ValueOf(&p).Elem())
			bend(m, l[m.IntN(len(l))])
		}
		stands, known := standsFor(p)
		switch {
		case !known:
		case !stands:
			checkWrong(t, p, p)
			wrong++
		case len(lined(plain(p))) > api.MaxText:
			checkTooLong(t, p)
		default:
			checkShown(t, p, lined(plain(p)))
			right++
		}
	}
	if right < 1000 || wrong < 1000 {
		t.Error("shown:", right, "wrong:", wrong)
	}
}
