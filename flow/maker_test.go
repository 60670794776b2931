package flow

import (
	"math/rand/v2"
	"slices"
	"strings"
	"testing"

	"delver/api"
	"delver/layout"
	"delver/parse"
)

// maker makes methods of all sorts.
type maker struct {
	*rand.Rand
	m plainModel // of the program in which they are made
}

func (m maker) one(l ...string) string { return l[m.IntN(len(l))] }

// makerTypes are the types of parameters, of answers.
const makerTypes = "int int int[] A[] I[] Object[] A B C I J Object Oops NumError Error"

func (m maker) typed() api.Type { return typeOf(m.one(strings.Fields(makerTypes)...)) }

// instr makes an instruction; a jump's place is not looked for here.
func (m maker) instr() api.Instr {
	i := api.Instr{Op: m.IntN(api.Ops)}
	if m.IntN(2) == 0 { // what makes ways, and ways unlike
		often := [...]int{api.OpLoad, api.OpStore, api.OpStore, api.OpStore, api.OpNew, api.OpNull, api.OpCast, api.OpEq, api.OpIfNull}
		i.Op = often[m.IntN(len(often))]
	}
	class := m.one("A", "A", "B", "B", "C", "I", "J", "Object", "Error", "Oops", "X")
	switch parse.Word(i.Op) {
	case "const":
		i.N = m.IntN(100)
	case "load", "store":
		i.N = m.IntN(5)
	case "new", "refs", "is", "cast":
		i.A = class
	case "get", "put":
		i.A, i.B = class, m.one("x", "y", "z", "z", "s")
	case "gets", "puts":
		i.A, i.B = m.one("A", "A", "B", "C"), m.one("s", "r", "q", "x")
	case "call":
		i.A, i.B = class, m.one("m", "m", "f", "g", "u")
	case "func":
		i.A, i.B = class, m.one("u", "v", "m")
	}
	return i
}

// jumps tells whether an instruction has a place.
func jumps(i api.Instr) bool { return i.Op >= api.OpGoto && i.Op <= api.OpOther }

// likely makes an instruction that may be done to a state, if one is found soon: one that gives, now and then, so that
// there is something to take.
func (m maker) likely(s plainState, f api.Method) (api.Instr, plainState) {
	var i api.Instr
	for range 60 {
		i = m.instr()
		n := s
		n.locals, n.stack = slices.Clone(s.locals), slices.Clone(s.stack)
		if jumps(i) && len(s.stack) > 2 || i.Op == api.OpPop && m.IntN(3) > 0 {
			continue
		}
		if caught(func() { n.do(i, f) }) == api.OK {
			return i, n
		}
	}
	return i, s
}

// method makes a method. Jumps go where the stack was empty, if there was such a place on the straight way.
func (m maker) method(name string) api.Method {
	f := api.Method{Name: name, Static: m.IntN(2) == 0, Ret: api.Type{Kind: api.Void}}
	if m.IntN(2) == 0 {
		f.Ret = m.typed()
	}
	for range m.IntN(api.MaxParams + 1) {
		f.Params = append(f.Params, m.typed())
	}
	begin := words(givenOf("T", f))
	for range m.IntN(3) {
		begin = append(begin, "nothing")
	}
	f.Locals = len(begin)
	s := plainState{plainModel: m.m, locals: begin}
	var low []int
	for n := 1 + m.IntN(22); len(f.Code) < n; {
		if len(s.stack) == 0 {
			low = append(low, len(f.Code))
		}
		var i api.Instr
		i, s = m.likely(s, f)
		f.Code = append(f.Code, i)
		if len(plainNext(f, len(f.Code)-1)) == 0 {
			s.stack = nil
		}
	}
	m.end(&f)
	for k, i := range f.Code {
		if jumps(i) {
			f.Code[k].N = low[m.IntN(len(low))]
		}
	}
	return f
}

// tangle makes a method of short pieces with the same stack between each two, and jumps from any one to any other one:
// whatever they store and lay there meets.
func (m maker) tangle(name string) api.Method {
	f := api.Method{Name: name, Static: true, Ret: api.Type{Kind: api.Void}, Params: []api.Type{{Kind: api.Int}, m.typed(), m.typed()}, Locals: 5}
	high := m.IntN(2)
	for range high {
		f.Code = append(f.Code, api.Instr{Op: api.OpNull})
	}
	for range 3 + m.IntN(12) {
		what := [...]api.Instr{{Op: api.OpConst}, {Op: api.OpNull}, {Op: api.OpNew, A: m.one("A", "B", "C", "Oops", "NumError")}, {Op: api.OpGets, A: "B", B: "q"}, {Op: api.OpFunc, A: "A", B: "v"}}
		k := m.IntN(len(what))
		if m.IntN(8) > 0 {
			k = max(k, 1)
		}
		switch m.IntN(4 + high) {
		case 0, 1:
			f.Code = append(f.Code, what[k], api.Instr{Op: api.OpStore, N: 1 + m.IntN(4)})
		case 2, 3:
			f.Code = append(f.Code, api.Instr{Op: api.OpLoad}, api.Instr{Op: api.OpEq})
		default:
			f.Code = append(f.Code, api.Instr{Op: api.OpPop}, what[k])
		}
	}
	for k := range f.Code {
		if jumps(f.Code[k]) {
			f.Code[k].N = high + 2*m.IntN(len(f.Code)/2)
		}
	}
	f.Code = append(f.Code, api.Instr{Op: api.OpLeave})
	return f
}

// givenOf answers what a method is given.
func givenOf(class string, f api.Method) []api.Type {
	if f.Static {
		return f.Params
	}
	return append([]api.Type{typeOf(class)}, f.Params...)
}

// end makes the end of a method, and behind it what its catches do.
func (m maker) end(f *api.Method) {
	l := []api.Instr{{Op: api.OpLeave}}
	switch f.Ret.Kind {
	case api.Void:
	case api.Int:
		l = []api.Instr{{Op: api.OpConst, N: 1}, {Op: api.OpRet}}
	default:
		l = []api.Instr{{Op: api.OpNull}, {Op: api.OpRet}}
	}
	f.Code = append(f.Code, l...)
	for range m.IntN(3) {
		from := m.IntN(len(f.Code))
		f.Catches = append(f.Catches, api.Catch{Name: m.one("Error", "Oops", "NullError", "NumError"), From: from, To: from + 1 + m.IntN(len(f.Code)-from), At: len(f.Code)})
	}
	if len(f.Catches) > 0 {
		f.Code = append(append(f.Code, api.Instr{Op: m.IntN(2)*(api.OpThrow-api.OpPop) + api.OpPop}), l...)
	}
}

// bend changes a method in one thing.
func (m maker) bend(f *api.Method) {
	k := m.IntN(len(f.Code))
	switch m.IntN(8) {
	case 0:
		f.Locals = m.IntN(api.MaxLocals + 1)
	case 1:
		f.Catches = append(f.Catches, api.Catch{Name: m.one("Error", "Oops", "A", "X"), From: m.IntN(k + 2), To: m.IntN(len(f.Code) + 2), At: m.IntN(len(f.Code) + 1)})
	case 2:
		if jumps(f.Code[k]) {
			f.Code[k].N = m.IntN(api.MaxCode)
		}
	case 3:
		f.Code = slices.Delete(f.Code, k, k+1)
	default:
		f.Code[k] = m.instr()
		if jumps(f.Code[k]) {
			f.Code[k].N = m.IntN(len(f.Code) + 1)
		}
	}
}

// program makes a program: a class T with some methods, beside the others.
func (m maker) program(bends int) api.Program {
	p := api.Program{Classes: slices.Clone(m.m.p.Classes)}
	c := api.Class{Name: "T"}
	for k := range 1 + m.IntN(4) {
		name := string(rune('k' + k))
		f := m.method(name)
		if m.IntN(3) == 0 {
			f = m.tangle(name)
		}
		for range bends {
			m.bend(&f)
		}
		c.Methods = append(c.Methods, f)
	}
	p.Classes[0] = c
	m.Shuffle(len(p.Classes), func(i, j int) { p.Classes[i], p.Classes[j] = p.Classes[j], p.Classes[i] })
	return p
}

func newMaker(t *testing.T, seed uint64) maker {
	t.Helper()
	return maker{rand.New(rand.NewPCG(7, seed)), plainOf(withCode(t, bare, "leave ;"))}
}

func TestRandomProgramsAsPlain(t *testing.T) {
	for bends, least := range [][3]int{{300, 100, 80}, {200, 300, 20}, {80, 300, 5}} {
		m := newMaker(t, uint64(bends))
		sound, faulty, again := 0, 0, 0
		for range 300 {
			p := m.program(bends)
			if e := layout.Check(p); e != api.OK {
				t.Fatalf("%d: %+v", e, p)
			}
			checkAsPlain(t, p)
			for _, f := range p.Classes[slices.IndexFunc(p.Classes, func(c api.Class) bool { return c.Name == "T" })].Methods {
				told, more := m.m.outcome("T", f)
				switch {
				case strings.Contains(told, " at "):
					faulty++
				case more > 0:
					again++
					fallthrough
				default:
					sound++
				}
			}
		}
		if sound < least[0] || faulty < least[1] || again < least[2] {
			t.Errorf("%d bends: %d are sound, %d are not; of %d places are gone through again", bends, sound, faulty, again)
		}
	}
}

// spoil makes a thing of a method such as no text says.
func (m maker) spoil(f *api.Method) {
	far := [...]int{-1, -1 << 63, 1<<63 - 1, api.MaxCode + 1, api.MaxLocals + 1, 1 << 32}
	n := far[m.IntN(len(far))]
	i := &f.Code[m.IntN(len(f.Code))]
	switch m.IntN(8) {
	case 0:
		i.Op = n
	case 1:
		i.N = n
	case 2:
		i.A = m.one("", "int", "A B", strings.Repeat("n", 100))
	case 3:
		i.B = m.one("", "void", "x ", strings.Repeat("n", 100))
	case 4:
		f.Locals = n
	case 5:
		f.Catches = append(f.Catches, api.Catch{Name: m.one("Error", "X", ""), From: m.IntN(3) * n, To: n, At: m.IntN(2) * n})
	case 6:
		f.Params = append(f.Params, api.Type{Kind: m.IntN(12) - 2, Name: m.one("", "A", "X")})
	case 7:
		f.Ret = api.Type{Kind: m.IntN(12) - 2, Name: m.one("", "A", "X")}
	}
}

func TestRandomProgramsThatNoTextSays(t *testing.T) {
	m := newMaker(t, 5)
	for range 600 {
		p := m.program(0)
		class := slices.IndexFunc(p.Classes, func(c api.Class) bool { return c.Name == "T" })
		f := &p.Classes[class].Methods[0]
		m.spoil(f)
		e := layout.Check(p)
		if e == api.OK {
			checkAsPlain(t, p)
			continue
		}
		if got := outcome(t, p, "T", f.Name) + checked(p); got != toldError(e, 0)+" of : "+toldError(e, 0) {
			t.Errorf("%s: %+v", got, p)
		}
	}
}
