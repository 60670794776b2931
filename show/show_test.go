package show

import (
	"math"
	"math/rand/v2"
	"reflect"
	"slices"
	"strings"
	"testing"

	"delver/api"
	"delver/parse"
)

// whole is the text of a program with each thing that the chapters name, as it is shown.
const whole = `interface I {
}
interface J extends I {
static k : int ;
method f ( int , A [ ] ) void ;
function s ( ) int [ ] ;
}
interface L extends I , J , M , N {
}
class A {
}
class B extends A {
field a : int ;
static b : int [ ] ;
field c : A ;
static d : A [ ] ;
field e : void ;
}
class C implements I {
field first : C ;
method m ( ) int ;
function n ( void , int , A , int [ ] ) A [ ] ;
}
class add extends nop implements I , J , L , load {
method none ( ) void locals 0 {
}
function every ( A [ ] ) int locals 8 {
nop ;
const -2147483648 ;
const 2147483647 ;
const 0 ;
null ;
load 0 ;
store 7 ;
pop ;
dup ;
swap ;
add ;
sub ;
mul ;
div ;
rem ;
neg ;
goto 0 ;
ifeq 47 ;
ifne 1 ;
iflt 2 ;
ifge 3 ;
cmpeq 4 ;
cmpne 5 ;
cmplt 6 ;
cmpge 7 ;
ifnull 8 ;
ifref 9 ;
same 10 ;
other 11 ;
new A ;
get A a ;
put B b ;
gets C c ;
puts D d ;
ints ;
refs E ;
len ;
at ;
set ;
is F ;
cast G ;
call H h ;
func add neg ;
ret ;
leave ;
throw ;
catch Error 0 48 1 ;
catch E 48 0 48 ;
catch at 1 2 3 ;
}
method caught ( A , B , int , C ) A locals 3 {
catch E 0 1 0 ;
}
}
`

// read answers the program that a text stands for.
func read(t *testing.T, text string) api.Program {
	t.Helper()
	p, at, e := parse.Program([]byte(text))
	if e != api.OK {
		t.Fatalf("%d at %d in %q", e, at, text)
	}
	return p
}

// checkShown holds that a program is shown so, and read again.
func checkShown(t *testing.T, p api.Program, want string) {
	t.Helper()
	if e := Check(p); e != api.OK {
		t.Fatalf("Check: %d, of %+v", e, p)
	}
	b, e := Text(p)
	if string(b) != want || e != api.OK {
		t.Fatalf("%d, %q, not %q", e, b, want)
	}
	if again := read(t, want); !same(again, p) {
		t.Fatalf("%q is read as %+v, not %+v", want, again, p)
	}
}

// checkWrong holds that a program can't be shown.
func checkWrong(t *testing.T, what any, p api.Program) {
	t.Helper()
	if e := Check(p); e != api.ErrForm {
		t.Errorf("%#v: Check: %d", what, e)
	}
	if b, e := Text(p); b != nil || e != api.ErrForm {
		t.Errorf("%#v: Text: %d, %q", what, e, b)
	}
}

// checkTooLong holds that a program can be shown, but its text is too long.
func checkTooLong(t *testing.T, p api.Program) {
	t.Helper()
	if e := Check(p); e != api.OK {
		t.Errorf("Check: %d", e)
	}
	if b, e := Text(p); b != nil || e != api.ErrLen {
		t.Errorf("Text: %d, %d bytes", e, len(b))
	}
}

func TestExampleOfTheChapter(t *testing.T) {
	checkShown(t, api.Program{Classes: []api.Class{{Name: "A"}}}, "class A {\n}\n")
}

func TestProgramOfNothing(t *testing.T) {
	checkShown(t, api.Program{}, "")
	checkShown(t, api.Program{Classes: []api.Class{}}, "")
}

func TestEmptyListsAreNone(t *testing.T) {
	m := api.Method{Name: "f", Params: []api.Type{}, Ret: api.Type{Kind: api.Int}, Code: []api.Instr{}, Catches: []api.Catch{}}
	bare := m
	bare.Abstract = true
	c := api.Class{Name: "A", Ifaces: []string{}, Fields: []api.Field{}, Methods: []api.Method{m, bare}}
	checkShown(t, api.Program{Classes: []api.Class{c}}, "class A {\nmethod f ( ) int locals 0 {\n}\nmethod f ( ) int ;\n}\n")
	c.Iface, c.Methods = true, nil
	checkShown(t, api.Program{Classes: []api.Class{c}}, "interface A {\n}\n")
}

func TestTextOfAWholeProgram(t *testing.T) {
	checkShown(t, read(t, whole), whole)
}

// The program is written out here, not read, so that it does not hang on package parse.
func TestTextOfAWrittenProgram(t *testing.T) {
	a, num := api.Type{Kind: api.Ref, Name: "A"}, api.Type{Kind: api.Int}
	f := api.Method{Name: "f", Static: true, Params: []api.Type{{Kind: api.RefRow, Name: "A"}, num}, Ret: a, Locals: 2,
		Code:    []api.Instr{{Op: api.OpConst, N: -5}, {Op: api.OpLoad, N: 1}, {Op: api.OpGoto, N: 3}, {Op: api.OpNew, A: "A"}, {Op: api.OpPut, A: "A", B: "x"}, {Op: api.OpThrow}},
		Catches: []api.Catch{{Name: "E", From: 1, To: 2, At: 3}}}
	g := api.Method{Name: "g", Abstract: true, Ret: api.Type{Kind: api.Void}}
	c := api.Class{Name: "A", Super: "B", Ifaces: []string{"I", "J"}, Fields: []api.Field{{Name: "x", Type: num}, {Name: "y", Type: api.Type{Kind: api.IntRow}, Static: true}}, Methods: []api.Method{f, g}}
	i := api.Class{Name: "I", Iface: true, Ifaces: []string{"J", "K"}, Methods: []api.Method{g}}
	checkShown(t, api.Program{Classes: []api.Class{c, i}}, `class A extends B implements I , J {
field x : int ;
static y : int [ ] ;
function f ( A [ ] , int ) A locals 2 {
const -5 ;
load 1 ;
goto 3 ;
new A ;
put A x ;
throw ;
catch E 1 2 3 ;
}
method g ( ) void ;
}
interface I extends J , K {
method g ( ) void ;
}
`)
}

func TestFieldsStandAheadOfMethods(t *testing.T) {
	p := read(t, "class A { method f ( ) int ; static b : int ; function g ( ) A locals 0 { } field a : A ; method e ( ) A ; static c : A ; }")
	checkShown(t, p, "class A {\nstatic b : int ;\nfield a : A ;\nstatic c : A ;\nmethod f ( ) int ;\nfunction g ( ) A locals 0 {\n}\nmethod e ( ) A ;\n}\n")
}

func TestHeadsOfClasses(t *testing.T) {
	for _, head := range []string{"class A", "class A extends B", "class A implements I", "class A extends B implements I , J , K , L",
		"interface A", "interface A extends I", "interface A extends I , J , K , L", "class nop extends nop implements nop , nop"} {
		checkShown(t, read(t, head+"{}"), head+" {\n}\n")
		checkShown(t, read(t, head+"{}class B{}"), head+" {\n}\nclass B {\n}\n")
	}
}

// ofInstr answers a program with one instruction.
func ofInstr(i api.Instr) api.Program {
	m := api.Method{Name: "f", Ret: api.Type{Kind: api.Int}, Code: []api.Instr{i}}
	return api.Program{Classes: []api.Class{{Name: "A", Methods: []api.Method{m}}}}
}

// textOfInstr answers how a program with one instruction is shown.
func textOfInstr(line string) string {
	return "class A {\nmethod f ( ) int locals 0 {\n" + line + "\n}\n}\n"
}

// withArgs answers an instruction with just the arguments that it has.
func withArgs(row instrRow) api.Instr {
	return map[string]api.Instr{"": {Op: row.op}, "n": {Op: row.op, N: row.most}, "a": {Op: row.op, A: "X"}, "ab": {Op: row.op, A: "X", B: "y"}}[row.has]
}

func TestEachInstruction(t *testing.T) {
	seen := map[int]int{}
	for _, row := range instrs() {
		seen[row.op]++
		checkShown(t, ofInstr(withArgs(row)), textOfInstr(plainInstr(withArgs(row))))
	}
	if len(seen) != api.Ops || len(instrs()) != api.Ops {
		t.Error(seen)
	}
}

func TestEachInstructionHasJustItsArguments(t *testing.T) {
	for _, row := range instrs() {
		for _, n := range []int{row.least, row.most, row.least - 1, row.most + 1, 0, 1, -1, math.MinInt, math.MaxInt} {
			i := withArgs(row)
			i.N = n
			checkInstr(t, i, row.has == "n" && row.least <= n && n <= row.most || n == 0)
		}
		for _, s := range []string{"", "X", "nop", "int", "catch", "9", "-1", "a-b", " ", strings.Repeat("n", 20), strings.Repeat("n", 21)} {
			right := s == "X" || s == "nop" || len(s) == 20
			i, has := withArgs(row), row.has == "a" || row.has == "ab"
			i.A = s
			checkInstr(t, i, has && right || !has && s == "")
			i, has = withArgs(row), row.has == "ab"
			i.B = s
			checkInstr(t, i, has && right || !has && s == "")
		}
	}
}

func checkInstr(t *testing.T, i api.Instr, right bool) {
	t.Helper()
	if right {
		checkShown(t, ofInstr(i), textOfInstr(plainInstr(i)))
	} else {
		checkWrong(t, i, ofInstr(i))
	}
}

func TestNoSuchInstruction(t *testing.T) {
	for _, op := range []int{-1, api.Ops, api.Ops + 1, -44, 1 << 8, 1 << 32, math.MinInt, math.MaxInt} {
		for _, i := range []api.Instr{{Op: op}, {Op: op, N: 1}, {Op: op, A: "A"}, {Op: op, A: "A", B: "b"}} {
			checkWrong(t, i, ofInstr(i))
		}
	}
}

// typed answers programs with a type at each place where one stands.
func typed(t api.Type) []api.Program {
	num := api.Type{Kind: api.Int}
	of := func(c api.Class) api.Program {
		c.Name = "A"
		return api.Program{Classes: []api.Class{c}}
	}
	return []api.Program{
		of(api.Class{Fields: []api.Field{{Name: "x", Type: t}}}),
		of(api.Class{Fields: []api.Field{{Name: "w", Type: num}, {Name: "x", Type: t, Static: true}}}),
		of(api.Class{Methods: []api.Method{{Name: "f", Params: []api.Type{t}, Ret: num, Abstract: true}}}),
		of(api.Class{Methods: []api.Method{{Name: "f", Params: []api.Type{num, num, num, t}, Ret: num}}}),
		of(api.Class{Iface: true, Methods: []api.Method{{Name: "f", Ret: t, Abstract: true}}}),
		of(api.Class{Methods: []api.Method{{Name: "f", Ret: t, Static: true}}}),
	}
}

func TestTypes(t *testing.T) {
	for _, c := range []struct {
		t    api.Type
		want string
	}{
		{api.Type{Kind: api.Void}, "void"}, {api.Type{Kind: api.Int}, "int"}, {api.Type{Kind: api.IntRow}, "int[]"},
		{api.Type{Kind: api.Ref, Name: "A"}, "A"}, {api.Type{Kind: api.RefRow, Name: "A"}, "A[]"},
		{api.Type{Kind: api.Ref, Name: "nop"}, "nop"}, {api.Type{Kind: api.RefRow, Name: "_9"}, "_9[]"},
		{api.Type{Kind: api.Ref, Name: "abcdefghijklmnopqrst"}, "abcdefghijklmnopqrst"}, {api.Type{Kind: api.RefRow, Name: "Int"}, "Int[]"},
	} {
		if s, e := Type(c.t); s != c.want || e != api.OK {
			t.Errorf("Type(%+v): %q, %d", c.t, s, e)
		}
		for _, p := range typed(c.t) {
			checkShown(t, p, lined(plain(p)))
		}
	}
}

func TestWrongTypes(t *testing.T) {
	var l []api.Type
	for _, kind := range []int{0, -1, api.Null, api.Nothing, 8, 99, 1 << 32, 1<<32 + api.Int, math.MinInt, math.MaxInt} {
		l = append(l, api.Type{Kind: kind}, api.Type{Kind: kind, Name: "A"})
	}
	for _, name := range append(strings.Fields("A nop int void [] [ 0"), " ") {
		l = append(l, api.Type{Kind: api.Void, Name: name}, api.Type{Kind: api.Int, Name: name}, api.Type{Kind: api.IntRow, Name: name})
	}
	for _, name := range wrongNames() {
		l = append(l, api.Type{Kind: api.Ref, Name: name}, api.Type{Kind: api.RefRow, Name: name})
	}
	for _, wrong := range l {
		if s, e := Type(wrong); s != "" || e != api.ErrForm {
			t.Errorf("Type(%+v): %q, %d", wrong, s, e)
		}
		for _, p := range typed(wrong) {
			checkWrong(t, wrong, p)
		}
	}
}

// ofLength answers a program whose text has so many bytes.
func ofLength(t *testing.T, n int) api.Program {
	code := strings.Repeat("get A x ; ", 48)
	p := read(t, "class A { "+strings.Repeat("method f ( ) A locals 0 { "+code+"} ", 6)+"} class B { "+strings.Repeat("method f ( ) A locals 0 { "+code[:40*10]+"} ", 3)+"}")
	wanting := n - len(lined(plain(p)))
	for _, place := range namePlaces(&p) {
		more := min(wanting, api.MaxName-len(*place))
		*place += strings.Repeat("n", more)
		wanting -= more
	}
	if wanting != 0 || len(lined(plain(p))) != n {
		t.Fatal(n, wanting)
	}
	return p
}

func TestLongTexts(t *testing.T) {
	for _, n := range []int{5000, api.MaxText - 1, api.MaxText} {
		p := ofLength(t, n)
		checkShown(t, p, lined(plain(p)))
	}
	for _, n := range []int{api.MaxText + 1, api.MaxText + 2, 7000, 12000} {
		checkTooLong(t, ofLength(t, n))
	}
}

func TestFormIsToldAheadOfLength(t *testing.T) {
	for _, n := range []int{api.MaxText, api.MaxText + 1, 12000} {
		p := ofLength(t, n)
		places := namePlaces(&p)
		*places[len(places)-1] = "int"
		checkWrong(t, n, p)
	}
}

func TestRandomProgramsAreReadAgain(t *testing.T) {
	m := maker{rand.New(rand.NewPCG(3, 1))}
	long := 0
	for n := range 4000 {
		p := m.program()
		if n%10 == 0 {
			p.Classes = slices.Repeat([]api.Class{m.class(), m.class()}, 5)
		}
		if want := lined(plain(p)); len(want) <= api.MaxText {
			checkShown(t, p, want)
		} else {
			checkTooLong(t, p)
			long++
		}
	}
	if long < 10 || long > 1000 {
		t.Error("too long:", long)
	}
}

// Texts whose members and blanks stand otherwise than they are shown.
func TestRandomTextsAreShown(t *testing.T) {
	rng := rand.New(rand.NewPCG(3, 2))
	m := maker{rng}
	for range 3000 {
		text := mixed(m)
		p, _, e := parse.Program([]byte(text))
		if e != api.OK {
			t.Fatalf("%d, %q", e, text)
		}
		if want := lined(plain(p)); len(want) <= api.MaxText {
			checkShown(t, p, want)
		} else {
			checkTooLong(t, p)
		}
	}
}

// mixed answers a text of two classes, their fields and methods in any order, with all sorts of blanks.
func mixed(m maker) string {
	var words []string
	for range 2 {
		c := m.class()
		c.Fields, c.Methods = nil, nil
		words = append(words, strings.Fields(strings.TrimSuffix(plainClass(c), "}"))...)
		for range m.IntN(6) {
			if m.coin() {
				c = api.Class{Name: "A", Fields: []api.Field{m.field()}}
			} else {
				c = api.Class{Name: "A", Methods: []api.Method{m.method()}}
			}
			l := strings.Fields(plainClass(c))
			words = append(words, l[3:len(l)-1]...)
		}
		words = append(words, "}")
	}
	blanks := []string{" ", "\t", "\n", "\r\n"}
	var b strings.Builder
	for _, w := range words {
		if sign := strings.Contains("{}():;,[]", w); !sign || m.coin() {
			b.WriteString(blanks[m.IntN(len(blanks))])
		}
		b.WriteString(w)
	}
	return b.String()
}

func TestArgumentsStayAsTheyWere(t *testing.T) {
	m := maker{rand.New(rand.NewPCG(3, 3))}
	l := []api.Program{read(t, whole), ofLength(t, api.MaxText+1), {Classes: []api.Class{{Name: "A"}, {Name: "int"}}}}
	for range 200 {
		l = append(l, m.program())
	}
	for _, p := range l {
		given, before := roomy(p), roomy(p)
		Check(given)
		Text(given)
		if !reflect.DeepEqual(unfolded(given), unfolded(before)) {
			t.Fatalf("%+v is changed", p)
		}
	}
}

// What lies behind a list's length is wrong in each list, so that whoever reads it refuses the program.
func TestNothingBehindAListIsRead(t *testing.T) {
	checkShown(t, roomy(read(t, whole)), whole)
}

// roomy answers a copy whose lists have spare room, with items there that are wrong.
func roomy(p api.Program) api.Program {
	wrong := []any{"int", api.Type{Kind: api.Null}, api.Field{Name: "int"}, api.Instr{Op: -1}, api.Catch{Name: "int"}, api.Method{Name: "int"}, api.Class{Name: "int"}}
	return copied(reflect.ValueOf(p), func(l reflect.Value) reflect.Value {
		n := l.Len()
		for _, x := range wrong {
			if v := reflect.ValueOf(x); v.Type() == l.Type().Elem() {
				l = reflect.Append(l, v, v)
			}
		}
		return l.Slice(0, n)
	}).Interface().(api.Program)
}

// unfolded answers p with all that lies in its lists' memory.
func unfolded(p api.Program) api.Program {
	l := p.Classes[:cap(p.Classes)]
	for i := range l {
		c := &l[i]
		c.Ifaces, c.Fields, c.Methods = c.Ifaces[:cap(c.Ifaces)], c.Fields[:cap(c.Fields)], c.Methods[:cap(c.Methods)]
		for j := range c.Methods {
			m := &c.Methods[j]
			m.Params, m.Code, m.Catches = m.Params[:cap(m.Params)], m.Code[:cap(m.Code)], m.Catches[:cap(m.Catches)]
		}
	}
	return api.Program{Classes: l}
}

func TestTextAnswersNewMemory(t *testing.T) {
	p := read(t, whole)
	a, _ := Text(p)
	b, _ := Text(p)
	for i, room := 0, a[:cap(a)]; i < len(room); i++ {
		room[i] = 'z'
	}
	if string(b) != whole || !same(p, read(t, whole)) {
		t.Error("an answer shares memory")
	}
	checkShown(t, p, whole)
}

func TestRefusedCallsLeaveNothing(t *testing.T) {
	p := read(t, whole)
	for range 2 {
		checkWrong(t, "twice", api.Program{Classes: append(read(t, whole).Classes, api.Class{Name: "void"})})
		checkTooLong(t, ofLength(t, api.MaxText+1))
		checkShown(t, p, whole)
	}
}
