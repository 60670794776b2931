package parse

import (
	"bytes"
	"math/rand/v2"
	"reflect"
	"strconv"
	"strings"
	"testing"

	"delver/api"
)

// whole is a text with each thing that the chapter names.
const whole = `interface I { }
interface J extends I { method f ( int , A [ ] ) void ; function s ( ) int [ ] ; static k : int ; }
interface L extends I , J , M , N { }
class A { }
class B extends A { field a : int ; static b : int [ ] ; field c : A ; static d : A [ ] ; field e : void ; }
class C implements I { method m ( ) int ; field late : C ; function n ( void , int , A , int [ ] ) A [ ] ; }
class add extends nop implements I , J , L , load {
method none ( ) void locals 0 { }
function every ( A [ ] ) int locals 8 {
nop ; const -2147483648 ; const 2147483647 ; null ; load 0 ; store 7 ; pop ; dup ; swap ; add ; sub ; mul ; div ; rem ; neg ;
goto 0 ; ifeq 47 ; ifne 1 ; iflt 2 ; ifge 3 ; cmpeq 4 ; cmpne 5 ; cmplt 6 ; cmpge 7 ; ifnull 8 ; ifref 9 ; same 10 ; other 11 ;
new A ; get A a ; put B b ; gets C c ; puts D d ; ints ; refs E ; len ; at ; set ; is F ; cast G ; call H h ; func add neg ; ret ; leave ; throw ;
catch Error 0 48 1 ; catch E 48 0 48 ; catch E 1 2 3 ; catch at 4 5 6 ; }
method caught ( A , B , int , C ) A locals 3 { catch E 0 1 0 ; }
}`

func wantWhole() api.Program {
	ref := func(s string) api.Type { return api.Type{Kind: api.Ref, Name: s} }
	refs := func(s string) api.Type { return api.Type{Kind: api.RefRow, Name: s} }
	void, num, nums := api.Type{Kind: api.Void}, api.Type{Kind: api.Int}, api.Type{Kind: api.IntRow}
	code := []api.Instr{{Op: api.OpNop}, {Op: api.OpConst, N: -1 << 31}, {Op: api.OpConst, N: 1<<31 - 1}, {Op: api.OpNull},
		{Op: api.OpLoad}, {Op: api.OpStore, N: 7}, {Op: api.OpPop}, {Op: api.OpDup}, {Op: api.OpSwap}, {Op: api.OpAdd}, {Op: api.OpSub},
		{Op: api.OpMul}, {Op: api.OpDiv}, {Op: api.OpRem}, {Op: api.OpNeg}, {Op: api.OpGoto}, {Op: api.OpEq, N: 47}, {Op: api.OpNe, N: 1},
		{Op: api.OpLt, N: 2}, {Op: api.OpGe, N: 3}, {Op: api.OpCmpEq, N: 4}, {Op: api.OpCmpNe, N: 5}, {Op: api.OpCmpLt, N: 6},
		{Op: api.OpCmpGe, N: 7}, {Op: api.OpIfNull, N: 8}, {Op: api.OpIfRef, N: 9}, {Op: api.OpSame, N: 10}, {Op: api.OpOther, N: 11},
		{Op: api.OpNew, A: "A"}, {Op: api.OpGet, A: "A", B: "a"}, {Op: api.OpPut, A: "B", B: "b"}, {Op: api.OpGets, A: "C", B: "c"},
		{Op: api.OpPuts, A: "D", B: "d"}, {Op: api.OpInts}, {Op: api.OpRefs, A: "E"}, {Op: api.OpLen}, {Op: api.OpAt}, {Op: api.OpSet},
		{Op: api.OpIs, A: "F"}, {Op: api.OpCast, A: "G"}, {Op: api.OpCall, A: "H", B: "h"}, {Op: api.OpFunc, A: "add", B: "neg"},
		{Op: api.OpRet}, {Op: api.OpLeave}, {Op: api.OpThrow}}
	catches := []api.Catch{{Name: "Error", To: 48, At: 1}, {Name: "E", From: 48, At: 48}, {Name: "E", From: 1, To: 2, At: 3}, {Name: "at", From: 4, To: 5, At: 6}}
	return api.Program{Classes: []api.Class{
		{Name: "I", Iface: true},
		{Name: "J", Iface: true, Ifaces: []string{"I"}, Fields: []api.Field{{Name: "k", Type: num, Static: true}}, Methods: []api.Method{
			{Name: "f", Abstract: true, Params: []api.Type{num, refs("A")}, Ret: void}, {Name: "s", Static: true, Abstract: true, Ret: nums}}},
		{Name: "L", Iface: true, Ifaces: []string{"I", "J", "M", "N"}},
		{Name: "A"},
		{Name: "B", Super: "A", Fields: []api.Field{{Name: "a", Type: num}, {Name: "b", Type: nums, Static: true}, {Name: "c", Type: ref("A")},
			{Name: "d", Type: refs("A"), Static: true}, {Name: "e", Type: void}}},
		{Name: "C", Ifaces: []string{"I"}, Fields: []api.Field{{Name: "late", Type: ref("C")}}, Methods: []api.Method{
			{Name: "m", Abstract: true, Ret: num},
			{Name: "n", Static: true, Abstract: true, Params: []api.Type{void, num, ref("A"), nums}, Ret: refs("A")}}},
		{Name: "add", Super: "nop", Ifaces: []string{"I", "J", "L", "load"}, Methods: []api.Method{
			{Name: "none", Ret: void},
			{Name: "every", Static: true, Params: []api.Type{refs("A")}, Ret: num, Locals: 8, Code: code, Catches: catches},
			{Name: "caught", Params: []api.Type{ref("A"), ref("B"), num, ref("C")}, Ret: ref("A"), Locals: 3, Catches: []api.Catch{{Name: "E", To: 1}}}}},
	}}
}

// checkRead holds that a text is read as this program.
func checkRead(t *testing.T, text string, want api.Program) {
	t.Helper()
	p, at, e := Program([]byte(text))
	if e != api.OK || at != 0 {
		t.Fatalf("%d at %d in %q", e, at, text)
	}
	if !reflect.DeepEqual(p, want) {
		t.Fatalf("%q is read as %+v, not %+v", text, p, want)
	}
}

// checkFault holds that a text is refused so, and nothing is told of it beside that.
func checkFault(t *testing.T, text string, wantAt int, want api.Errno) {
	t.Helper()
	p, at, e := Program([]byte(text))
	if e != want || at != wantAt || p.Classes != nil {
		t.Fatalf("%d at %d, not %d at %d, in %q (%+v)", e, at, want, wantAt, text, p)
	}
}

// checkAsGrammar holds a text against the grammar's rules.
func checkAsGrammar(t *testing.T, text string) {
	t.Helper()
	wantAt, want := wantFault([]byte(text))
	if want != api.OK {
		checkFault(t, text, wantAt, want)
		return
	}
	if _, at, e := Program([]byte(text)); e != api.OK || at != 0 {
		t.Fatalf("%d at %d in %q", e, at, text)
	}
}

// checkBarred holds that the fault stands where the bar stands in the text.
func checkBarred(t *testing.T, barred string, want api.Errno) {
	t.Helper()
	at := strings.IndexByte(barred, '|')
	text := barred[:at] + barred[at+1:]
	checkFault(t, text, at, want)
	checkAsGrammar(t, text)
}

func TestProgramWhole(t *testing.T) {
	checkRead(t, whole, wantWhole())
}

func TestProgramExampleOfTheChapter(t *testing.T) {
	checkRead(t, "class A { }", api.Program{Classes: []api.Class{{Name: "A"}}})
}

func TestProgramOfNothing(t *testing.T) {
	checkRead(t, "", api.Program{})
	checkRead(t, " \t\r\n", api.Program{})
	if p, at, e := Program(nil); p.Classes != nil || at != 0 || e != api.OK {
		t.Error(p, at, e)
	}
}

func TestProgramBlanks(t *testing.T) {
	words := strings.Fields(whole)
	for _, blank := range []string{" ", "\t", "\n", "\r", "\r\n \t"} {
		checkRead(t, blank+strings.Join(words, blank)+blank, wantWhole())
	}
	var b strings.Builder
	for i, w := range words {
		// A blank is needed between two names or numbers alone.
		if i > 0 && !strings.Contains("{}():;,[]", w) && !strings.Contains("{}():;,[]", words[i-1]) {
			b.WriteByte(' ')
		}
		b.WriteString(w)
	}
	checkRead(t, b.String(), wantWhole())
}

func TestInstructionWordsAreFreshNames(t *testing.T) {
	for _, w := range append(strings.Fields(opWords), "_", "Class", "INT", "void_", "x9", strings.Repeat("n", api.MaxName)) {
		text := strings.ReplaceAll("class @ extends @ implements @ { field @ : @ ; method @ ( @ [ ] ) @ locals 0 { new @ ; get @ @ ; catch @ 0 0 0 ; } }", "@", w)
		checkRead(t, text, api.Program{Classes: []api.Class{{
			Name: w, Super: w, Ifaces: []string{w}, Fields: []api.Field{{Name: w, Type: api.Type{Kind: api.Ref, Name: w}}},
			Methods: []api.Method{{Name: w, Params: []api.Type{{Kind: api.RefRow, Name: w}}, Ret: api.Type{Kind: api.Ref, Name: w},
				Code: []api.Instr{{Op: api.OpNew, A: w}, {Op: api.OpGet, A: w, B: w}}, Catches: []api.Catch{{Name: w}}}},
		}}})
	}
}

// Each place of a fresh name; the bar stands ahead of it.
var freshPlaces = []string{
	"class |@ { }", "interface |@ { }", "class A extends |@ { }", "class A implements |@ { }", "class A implements I , |@ { }",
	"class A extends B implements I , J , K , |@ { }", "interface I extends |@ { }", "interface I extends J , |@ { }",
	"class A { field |@ : int ; }", "class A { static |@ : int ; }", "class A { method |@ ( ) int ; }", "class A { function |@ ( ) int ; }",
	"class A { method f ( ) int locals 0 { new |@ ; } }", "class A { method f ( ) int locals 0 { refs |@ ; } }",
	"class A { method f ( ) int locals 0 { is |@ ; } }", "class A { method f ( ) int locals 0 { cast |@ ; } }",
	"class A { method f ( ) int locals 0 { get |@ x ; } }", "class A { method f ( ) int locals 0 { get A |@ ; } }",
	"class A { method f ( ) int locals 0 { put |@ x ; } }", "class A { method f ( ) int locals 0 { put A |@ ; } }",
	"class A { method f ( ) int locals 0 { gets |@ x ; } }", "class A { method f ( ) int locals 0 { gets A |@ ; } }",
	"class A { method f ( ) int locals 0 { puts |@ x ; } }", "class A { method f ( ) int locals 0 { puts A |@ ; } }",
	"class A { method f ( ) int locals 0 { call |@ x ; } }", "class A { method f ( ) int locals 0 { call A |@ ; } }",
	"class A { method f ( ) int locals 0 { func |@ x ; } }", "class A { method f ( ) int locals 0 { func A |@ ; } }",
	"class A { method f ( ) int locals 0 { catch |@ 0 0 0 ; } }",
}

func TestFreshNamesAreNeeded(t *testing.T) {
	for _, place := range freshPlaces {
		for _, w := range append(strings.Fields(keptWords), "0", "-1", "7", "{", ";", "[", ",", ")") {
			checkBarred(t, strings.Replace(place, "@", w, 1), api.ErrForm)
		}
		checkAsGrammar(t, strings.Replace(strings.Replace(place, "@", "add", 1), "|", "", 1))
	}
}

func TestTypes(t *testing.T) {
	for _, c := range []struct {
		text string
		want api.Type
	}{
		{"void", api.Type{Kind: api.Void}}, {"int", api.Type{Kind: api.Int}}, {"int[]", api.Type{Kind: api.IntRow}}, {"int [ ]", api.Type{Kind: api.IntRow}},
		{"A", api.Type{Kind: api.Ref, Name: "A"}}, {"A[\n]", api.Type{Kind: api.RefRow, Name: "A"}}, {"len [ ]", api.Type{Kind: api.RefRow, Name: "len"}},
	} {
		checkRead(t, "class A { field x : "+c.text+" ; static y : "+c.text+" ; method f ( "+c.text+" , "+c.text+" ) "+c.text+" ; }",
			api.Program{Classes: []api.Class{{Name: "A", Fields: []api.Field{{Name: "x", Type: c.want}, {Name: "y", Type: c.want, Static: true}},
				Methods: []api.Method{{Name: "f", Abstract: true, Params: []api.Type{c.want, c.want}, Ret: c.want}}}}})
	}
}

func TestWrongTypes(t *testing.T) {
	for _, place := range []string{"class A { field x : @ ; }", "class A { static x : @ ; }", "class A { method f ( @ ) int ; }", "class A { method f ( int , @ ) int ; }", "class A { function f ( ) @ ; }"} {
		for _, wrong := range []string{"|class", "|catch", "|5", "|[ ]", "|:", "void |[ ]", "int |]", "int [ |[", "int [ |0 ]", "int [ |A ]", "A [ |int ]", "int [ ] |[ ]", "A [ ] |[ ]", "A |B", "int |int", "A |int", "|field", "|locals"} {
			checkBarred(t, strings.Replace(place, "@", wrong, 1), api.ErrForm)
		}
	}
}

// inBody answers the text of a program with one method that has this body.
func inBody(body string) string { return "class A { method f ( ) int locals 0 { " + body + " } }" }

func TestNumberEdges(t *testing.T) {
	jumps := strings.Fields("goto ifeq ifne iflt ifge cmpeq cmpne cmplt cmpge ifnull ifref same other")
	type place struct {
		text        string // the number stands at the "@"
		least, most int
	}
	places := []place{
		{"class A { method f ( ) int locals @ { } }", 0, api.MaxLocals}, {inBody("load @ ;"), 0, api.MaxLocals - 1}, {inBody("store @ ;"), 0, api.MaxLocals - 1},
		{inBody("catch E @ 0 0 ;"), 0, api.MaxCode}, {inBody("catch E 0 @ 0 ;"), 0, api.MaxCode}, {inBody("catch E 0 0 @ ;"), 0, api.MaxCode},
	}
	for _, w := range jumps {
		places = append(places, place{inBody(w + " @ ;"), 0, api.MaxCode - 1})
	}
	for _, c := range places {
		for n := c.least; n <= c.most; n++ {
			checkNumber(t, strings.Replace(c.text, "@", strconv.Itoa(n), 1), n)
		}
		for _, n := range []int{c.least - 1, c.most + 1, c.most + 2, 1 << 16, api.Least, api.Most} {
			checkBarred(t, strings.Replace(c.text, "@", "|"+strconv.Itoa(n), 1), api.ErrForm)
		}
		for _, n := range []int{api.Least - 1, api.Most + 1} {
			checkBarred(t, strings.Replace(c.text, "@", "|"+strconv.Itoa(n), 1), api.ErrText)
		}
		checkBarred(t, strings.Replace(c.text, "@", "|x", 1), api.ErrForm)
		checkBarred(t, strings.Replace(c.text, "@", "0 |x", 1), api.ErrForm)
	}
}

// checkNumber holds that a program's only number (beside noughts) is read as it is.
func checkNumber(t *testing.T, text string, n int) {
	t.Helper()
	p, at, e := Program([]byte(text))
	if e != api.OK || at != 0 {
		t.Fatalf("%d at %d in %q", e, at, text)
	}
	m := p.Classes[0].Methods[0]
	sum := m.Locals
	for _, i := range m.Code {
		sum += i.N
	}
	for _, c := range m.Catches {
		sum += c.From + c.To + c.At
	}
	if sum != n {
		t.Errorf("%q is read as %+v", text, m)
	}
}

func TestConstEdges(t *testing.T) {
	for _, n := range []int{api.Least, api.Least + 1, -49, -1, 0, 1, 7, 8, 47, 48, 49, api.Most - 1, api.Most} {
		checkNumber(t, inBody("const "+strconv.Itoa(n)+" ;"), n)
	}
	for _, wrong := range []string{"-2147483649", "2147483648", "99999999999999999999", "00", "-0", "-"} {
		checkBarred(t, inBody("const |"+wrong+" ;"), api.ErrText)
	}
}

func TestArgumentsOfInstructions(t *testing.T) {
	fitting := map[string]string{"const": "-3", "load": "0", "store": "7"}
	for _, w := range strings.Fields("goto ifeq ifne iflt ifge cmpeq cmpne cmplt cmpge ifnull ifref same other") {
		fitting[w] = "47"
	}
	for _, w := range strings.Fields("new refs is cast") {
		fitting[w] = "A"
	}
	for _, w := range strings.Fields("get put gets puts call func") {
		fitting[w] = "A b"
	}
	for op, w := range strings.Fields(opWords) {
		args := strings.Fields(fitting[w])
		want := api.Instr{Op: op}
		for k, arg := range args {
			n, err := strconv.Atoi(arg)
			switch {
			case err == nil:
				want.N = n
			case k == 0:
				want.A = arg
			default:
				want.B = arg
			}
			// An argument too few: what stands behind it comes too early.
			checkBarred(t, inBody(strings.Join(append([]string{w}, args[:k]...), " ")+" |;"), api.ErrForm)
		}
		full := w + " " + fitting[w]
		checkRead(t, inBody(full+";"), api.Program{Classes: []api.Class{{Name: "A", Methods: []api.Method{{Name: "f", Ret: api.Type{Kind: api.Int}, Code: []api.Instr{want}}}}}})
		for _, more := range []string{"0", "A", "int", "nop", "}", ":", "catch"} {
			checkBarred(t, inBody(full+" |"+more+" ;"), api.ErrForm)
		}
	}
}

func TestNoInstruction(t *testing.T) {
	for _, w := range append(strings.Fields(keptWords), "A", "jump", "Nop", "5", ";", "{", "[") {
		if w == "catch" {
			continue
		}
		checkBarred(t, inBody("|"+w+" ;"), api.ErrForm)
		checkBarred(t, inBody("nop ; |"+w+" ;"), api.ErrForm)
		checkBarred(t, inBody("catch E 0 1 0 ; |"+w+" ;"), api.ErrForm)
	}
}

func TestNoInstructionBehindACatch(t *testing.T) {
	for _, w := range strings.Fields(opWords) {
		checkBarred(t, inBody("nop ; catch E 0 1 0 ; |"+w+" ;"), api.ErrForm)
		// Were it one too many as well: that it can't stand there is told first.
		checkBarred(t, inBody(strings.Repeat("nop ; ", api.MaxCode)+"catch E 0 1 0 ; |"+w+" ;"), api.ErrForm)
	}
}

func TestAbstractOrBody(t *testing.T) {
	checkBarred(t, "class A { method f ( ) int |{ } }", api.ErrForm)
	checkBarred(t, "class A { method f ( ) int locals |; }", api.ErrForm)
	checkBarred(t, "class A { method f ( ) int locals 0 |; }", api.ErrForm)
	checkBarred(t, "class A { method f ( ) int locals 0 { } |; }", api.ErrForm)
	checkBarred(t, "class A { method f ( ) int ; |locals 0 { } }", api.ErrForm)
}

func TestHeads(t *testing.T) {
	for _, wrong := range []string{
		"|A", "|{", "|5", "|field x : int ;", "class A { } |;", "class A { } |}", "class A { } |A", "class A |A { }", "class A |: B { }", "class A extends B |, C { }",
		"class A extends B |extends C { }", "class A implements I |implements J { }", "class A implements I |extends B { }", "class A implements I |J { }",
		"class A implements |, I { }", "class A implements I , |, J { }", "interface I |implements J { }", "interface I extends J |implements K { }",
		"interface I extends J |K { }", "class A { |{ } }", "class A { |class B { } }", "class A { |int x ; }", "class A { |; }", "class A { field x : int ; |; }",
	} {
		checkBarred(t, wrong, api.ErrForm)
	}
}

func TestAsManyAsMayBe(t *testing.T) {
	for _, c := range []struct {
		begin, each, end string
		most             int
	}{
		{"", "class A { } ", "", api.MaxClasses}, {"", "interface A { } ", "", api.MaxClasses}, {"", "interface A { } class B { } ", "", api.MaxClasses / 2},
		{"class A { ", "field x : int ; ", "}", api.MaxFields}, {"class A { ", "static x : A [ ] ; ", "}", api.MaxFields},
		{"class A { ", "static x : int ; field y : A ; ", "}", api.MaxFields / 2}, {"interface A { ", "static x : int ; ", "}", api.MaxFields},
		{"class A { ", "method f ( ) int ; ", "}", api.MaxMethods}, {"class A { ", "function f ( ) int locals 0 { } ", "}", api.MaxMethods},
		{"interface A { ", "method f ( ) int ; function g ( ) void locals 1 { } ", "}", api.MaxMethods / 2},
		{"class A { method f ( ) int locals 0 { ", "nop ; ", "} }", api.MaxCode}, {"class A { method f ( ) int locals 0 { ", "get A b ; ", "} }", api.MaxCode},
		{"class A { method f ( ) int locals 0 { ", "catch E 0 1 0 ; ", "} }", api.MaxCatches}, {"class A { method f ( ) int locals 0 { nop ; ", "catch E 0 1 0 ; ", "} }", api.MaxCatches},
		{"class A implements I ", ", J ", "{ }", 3}, {"class A extends B implements I ", ", add ", "{ }", 3}, {"interface A extends I ", ", J ", "{ }", 3},
		{"class A { method f ( int ", ", int ", ") int ; }", api.MaxParams - 1}, {"class A { function f ( int ", ", A [ ] ", ") int ; }", api.MaxParams - 1},
		{"class A { method f ( A ", ", void ", ") int locals 0 { } }", api.MaxParams - 1},
	} {
		full := c.begin + strings.Repeat(c.each, c.most)
		checkAsGrammar(t, full+c.end)
		if _, at, e := Program([]byte(full + c.end)); at != 0 || e != api.OK {
			t.Errorf("%d at %d in %q", e, at, full+c.end)
		}
		// The "," is no fault; what begins behind it is.
		comma := len(c.each) - len(strings.TrimPrefix(c.each, ", "))
		for _, end := range []string{c.end, "", "#"} {
			text := full + c.each + end
			if end == "#" {
				checkFault(t, text, len(text)-1, api.ErrText)
				continue
			}
			checkFault(t, text, len(full)+comma, api.ErrLen)
			checkAsGrammar(t, text)
		}
	}
}

func TestOneTooManyAtItsFirstWord(t *testing.T) {
	classes := strings.Repeat("class A { } ", api.MaxClasses)
	fields, methods := strings.Repeat("field x : int ; ", api.MaxFields), strings.Repeat("method f ( ) int ; ", api.MaxMethods)
	code, catches := strings.Repeat("nop ; ", api.MaxCode), strings.Repeat("catch E 0 1 0 ; ", api.MaxCatches)
	for _, c := range []struct {
		barred string
		e      api.Errno
	}{
		{classes + "|class", api.ErrLen}, {classes + "|interface", api.ErrLen}, {classes + "|class class", api.ErrLen}, {classes + "|field", api.ErrForm}, {classes + "|A", api.ErrForm}, {classes + "|}", api.ErrForm},
		{"class A { " + fields + "|field", api.ErrLen}, {"class A { " + fields + "|static static", api.ErrLen}, {"class A { " + fields + "|x", api.ErrForm}, {"class A { " + fields + "method f ( ) int ; |static", api.ErrLen},
		{"class A { " + methods + "|method", api.ErrLen}, {"class A { " + methods + "|function", api.ErrLen}, {"class A { " + methods + "field x : int ; |function", api.ErrLen}, {"class A { " + methods + "|class", api.ErrForm},
		{"class A { " + fields + methods + "} |}", api.ErrForm}, {"class A { " + fields + methods + "|", api.ErrForm}, {"class A { " + methods + fields + "} class B { " + fields + methods + "|method", api.ErrLen},
		{"class A { method f ( ) int locals 0 { " + code + "|nop", api.ErrLen}, {"class A { method f ( ) int locals 0 { " + code + "|get ;", api.ErrLen}, {"class A { method f ( ) int locals 0 { " + code + "|foo", api.ErrForm},
		{"class A { method f ( ) int locals 0 { " + catches + "|catch", api.ErrLen}, {"class A { method f ( ) int locals 0 { " + code + catches + "|catch ;", api.ErrLen}, {"class A { method f ( ) int locals 0 { " + code + catches + "|nop", api.ErrForm},
		{"class A { method f ( ) int locals 0 { " + code + catches + "} |;", api.ErrForm}, {"class A implements I , J , K , L , |M", api.ErrLen}, {"class A implements I , J , K , L , |int", api.ErrForm}, {"class A implements I , J , K , L , |5", api.ErrForm},
		{"class A implements I , J , K , L , |{", api.ErrForm}, {"class A implements I , J , K , L ,|", api.ErrForm}, {"interface I extends I , J , K , L , |throw", api.ErrLen}, {"interface I extends I , J , K , L , |, M", api.ErrForm},
		{"class A { method f ( int , int , int , int , |int", api.ErrLen}, {"class A { method f ( int , int , int , int , |void [", api.ErrLen}, {"class A { method f ( int , int , int , int , |B 5", api.ErrLen},
		{"class A { method f ( int , int , int , int , |)", api.ErrForm}, {"class A { method f ( int , int , int , int , |class", api.ErrForm}, {"class A { method f ( int , int , int , int ,|", api.ErrForm}, {"class A { method f ( int , int , int , int |int", api.ErrForm},
	} {
		checkBarred(t, c.barred, c.e)
	}
}

func TestMethodsAndClassesAreCountedByThemselves(t *testing.T) {
	code, catches := strings.Repeat("nop ; ", api.MaxCode), strings.Repeat("catch E 0 1 0 ; ", api.MaxCatches)
	checkAsGrammar(t, "class A { "+strings.Repeat("method f ( int , int , int , int ) int locals 0 { "+code+catches+"} ", 6)+"} ")
	members := strings.Repeat("static x : int ; function f ( int , int , int , int ) int ; ", 6)
	checkAsGrammar(t, strings.Repeat("class A implements I , J , K , L { "+members+"} ", 10))
}

func TestWhatScanRefuses(t *testing.T) {
	for _, c := range []string{"class A { |# }", "class A { |. }", "|@", "|-", "class A { } |class123456789012345678", "class |9a { }", "; ; |?", "class { } } |-x", "class int |01 |"} {
		at := strings.IndexByte(c, '|')
		checkFault(t, strings.ReplaceAll(c, "|", ""), at, api.ErrText)
	}
	long := "class A { }" + strings.Repeat(" ", api.MaxText)
	checkRead(t, long[:api.MaxText], api.Program{Classes: []api.Class{{Name: "A"}}})
	checkFault(t, long[:api.MaxText+1], 0, api.ErrLen)
	checkFault(t, strings.Repeat("#", api.MaxText+1), 0, api.ErrLen)
}

func TestEndsTooEarly(t *testing.T) {
	words := strings.Fields(whole)
	for n := range words {
		text := strings.Join(words[:n], " ")
		checkAsGrammar(t, text)
		checkAsGrammar(t, text+" \t\n")
	}
	for n := range len(whole) {
		checkAsGrammar(t, whole[:n])
	}
	checkFault(t, "class A {\n\n  ", 13, api.ErrForm)
	checkFault(t, "class", 5, api.ErrForm)
}

// vocabulary holds words of each kind that the grammar tells apart.
var vocabulary = strings.Fields(keptWords + " { } ( ) : ; , [ ] nop const load goto new get throw A b -2147483648 -1 0 7 8 9 47 48 49 2147483647")

// small has a word of each kind at each place where one may stand.
const small = `interface J extends I , K { method f ( int , A [ ] ) void ; static s : A ; }
class B extends A implements I , J { field a : int ; function e ( ) A locals 8 {
nop ; const -5 ; load 7 ; goto 47 ; new A ; get A a ; catch E 0 48 1 ; catch E 1 2 3 ; } static d : int [ ] ; } class C { }`

func TestOneWordChanged(t *testing.T) {
	words := strings.Fields(small)
	for i := range words {
		head, tail := strings.Join(words[:i], " "), strings.Join(words[i+1:], " ")
		checkAsGrammar(t, head+" "+tail)
		for _, w := range vocabulary {
			checkAsGrammar(t, head+" "+w+" "+tail)
			checkAsGrammar(t, head+" "+w+" "+words[i]+" "+tail)
		}
	}
}

func TestShortRowsOfWords(t *testing.T) {
	short := strings.Fields("class interface extends implements field method ( ) { } : ; , A int 0")
	var try func(text string, n int)
	try = func(text string, n int) {
		checkAsGrammar(t, text)
		if n > 0 {
			for _, w := range short {
				try(text+" "+w, n-1)
			}
		}
	}
	try("", 4)
	for _, begin := range []string{"class A {", "class A { field x :", "class A { method f ( ", "class A { method f ( ) int", "class A { method f ( ) int locals 0 {", "interface A extends B"} {
		try(begin, 3)
	}
}

func TestRandomPrograms(t *testing.T) {
	rng := rand.New(rand.NewPCG(2, 1))
	for range 3000 {
		m := maker{rng: rng}
		want := m.program()
		text := strings.Join(m.words, " ")
		if len(text) > api.MaxText {
			continue
		}
		checkRead(t, text, want)
	}
}

func TestRandomFaults(t *testing.T) {
	rng := rand.New(rand.NewPCG(2, 2))
	for range 3000 {
		m := maker{rng: rng}
		m.program()
		words := m.words
		for range 1 + rng.IntN(3) {
			i := rng.IntN(len(words) + 1)
			w := vocabulary[rng.IntN(len(vocabulary))]
			switch j := min(i+1, len(words)); rng.IntN(3) {
			case 0:
				words = append(words[:i:i], words[j:]...)
			case 1:
				words = append(append(words[:i:i], w), words[j:]...)
			case 2:
				words = append(append(words[:i:i], w), words[i:]...)
			}
		}
		checkAsGrammar(t, strings.Join(words, " "))
	}
}

func TestAnyBytes(t *testing.T) {
	rng := rand.New(rand.NewPCG(2, 3))
	for range 20000 {
		b := []byte(whole[:rng.IntN(len(whole))])
		for range 1 + rng.IntN(4) {
			if len(b) > 0 {
				b[rng.IntN(len(b))] = byte(rng.Uint32())
			}
		}
		checkAsGrammar(t, string(b))
	}
}

func TestProgramLeavesItsArgument(t *testing.T) {
	for _, text := range []string{whole, whole[:300], "class A { # }", strings.Repeat(" ", api.MaxText+1), ""} {
		room := append([]byte(text), " class Z { } # }"...)
		before := bytes.Clone(room)
		Program(room[:len(text)])
		if !bytes.Equal(room, before) {
			t.Errorf("%q is changed", text)
		}
	}
}

func TestProgramReadsNothingBehind(t *testing.T) {
	room := []byte("class A { } class B { }")
	p, at, e := Program(room[:11])
	if e != api.OK || at != 0 || len(p.Classes) != 1 {
		t.Error(p, at, e)
	}
	if _, at, e := Program(room[:9]); at != 9 || e != api.ErrForm {
		t.Error(at, e)
	}
}

func TestProgramAnswersNewMemory(t *testing.T) {
	b := []byte(whole)
	p, _, _ := Program(b)
	for i := range b {
		b[i] = 'z'
	}
	if !reflect.DeepEqual(p, wantWhole()) {
		t.Error("the answer hangs on the text's memory")
	}
	q, _, _ := Program([]byte(whole))
	spoil(&q)
	if !reflect.DeepEqual(p, wantWhole()) {
		t.Error("two answers share memory")
	}
	if r, _, _ := Program([]byte(whole)); !reflect.DeepEqual(r, wantWhole()) {
		t.Error("an answer that is changed changes later ones")
	}
}

// spoil writes over every item of every list of a program.
func spoil(p *api.Program) {
	for i := range p.Classes {
		c := &p.Classes[i]
		for j := range c.Methods {
			clear(c.Methods[j].Params)
			clear(c.Methods[j].Code)
			clear(c.Methods[j].Catches)
		}
		clear(c.Ifaces)
		clear(c.Fields)
		clear(c.Methods)
	}
	clear(p.Classes)
}

// fillSpare writes into a list's spare room.
func fillSpare[T any](l []T, x T) {
	for i, spare := 0, l[len(l):cap(l)]; i < len(spare); i++ {
		spare[i] = x
	}
}

func TestListsOfAnAnswerShareNothing(t *testing.T) {
	p, _, _ := Program([]byte(whole))
	fillSpare(p.Classes, api.Class{Name: "z"})
	for _, c := range p.Classes {
		fillSpare(c.Ifaces, "z")
		fillSpare(c.Fields, api.Field{Name: "z"})
		fillSpare(c.Methods, api.Method{Name: "z"})
		for _, m := range c.Methods {
			fillSpare(m.Params, api.Type{Name: "z"})
			fillSpare(m.Code, api.Instr{A: "z"})
			fillSpare(m.Catches, api.Catch{Name: "z"})
		}
	}
	if !reflect.DeepEqual(p, wantWhole()) {
		t.Error("a list's spare room is another list's")
	}
}
