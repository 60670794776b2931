package flow

import (
	"strconv"
	"strings"
	"testing"

	"delver/api"
	"delver/parse"
)

// others stand behind the class T whose method t the tests ask.
const others = `
interface I { method f ( int ) int ; }
interface J extends I { method g ( ) void ; }
class A { field x : int ; field y : B ; static s : int ; static r : B [ ] ; method m ( int , B ) A locals 3 { load 0 ; ret ; }
	function u ( B , int ) void locals 2 { leave ; } function v ( ) int [ ] locals 0 { null ; ret ; } }
class B extends A implements J { field z : int [ ] ; static q : I ; method f ( int ) int locals 2 { load 1 ; ret ; } method g ( ) void locals 1 { leave ; } }
class C extends A { }
class Oops extends NumError { }`

// withCode answers the program in which t, such as its head says, does that.
func withCode(t *testing.T, head, code string) api.Program {
	t.Helper()
	return read(t, "class T { "+head+" { "+code+" } }"+others)
}

// laid answers instructions that lay types on the stack, from an empty one on, and how many they are.
func laid(stack string) (string, int) {
	var l []string
	at := func(n int) string { return strconv.Itoa(len(l) + n) }
	for _, word := range strings.Fields(stack) {
		name, row := strings.CutSuffix(word, "[]")
		switch {
		case word == "int":
			l = append(l, "const 1")
		case word == "null":
			l = append(l, "null")
		case word == "int[]":
			l = append(l, "const 1", "ints")
		case word == "nothing":
			l = append(l, "const 1", "ifeq "+at(4), "const 1", "goto "+at(5), "null")
		case row:
			l = append(l, "const 1", "refs "+name)
		default:
			l = append(l, "null", "cast "+word)
		}
	}
	return strings.Join(append(l, ""), " ; "), len(l)
}

// locals are those of the methods in which instructions are asked one by one: an int, a B, Nothing.
const locals = "int B nothing"

// after writes the stack behind an instruction that is done to one, or ! and the error; where it goes nowhere: -. A jump,
// which is written without its place, goes to the next one.
func after(t *testing.T, ret, stack, instr string) string {
	t.Helper()
	code, at := laid(stack)
	if strings.HasPrefix(instr, "if") || strings.HasPrefix(instr, "cmp") || instr == "goto" || instr == "same" || instr == "other" {
		instr += " " + strconv.Itoa(at+1)
	}
	p := withCode(t, "function t ( int , B ) "+ret+" locals 3", code+instr+" ; goto "+strconv.Itoa(at+1)+" ;")
	l, place, e := States(p, "T", "t")
	switch {
	case e != api.OK && place == at:
		return "!" + e.Error()
	case e != api.OK:
		return toldError(e, place)
	case !l[at+1].Seen:
		return "-"
	}
	if !strings.HasPrefix(instr, "store") && strings.Join(words(l[at+1].Locals), " ") != locals {
		t.Errorf("%s: locals %v", instr, l[at+1].Locals)
	}
	return strings.Join(words(l[at+1].Stack), " ")
}

// checkRows holds lines to what they say: an instruction, :, the stack, ->, the stack behind it.
func checkRows(t *testing.T, ret, lines string) {
	t.Helper()
	for _, line := range strings.Split(strings.TrimSpace(lines), "\n") {
		instr, rest, _ := strings.Cut(strings.TrimSpace(line), ":")
		stack, want, ok := strings.Cut(rest, "->")
		if !ok {
			t.Fatal(line)
		}
		if got := after(t, ret, stack, instr); got != strings.TrimSpace(want) {
			t.Errorf("%s: %q", line, got)
		}
	}
}

// checkTaking holds of each instruction what happens to each of the stacks.
func checkTaking(t *testing.T, instrs, lines string) {
	t.Helper()
	for _, instr := range strings.Fields(instrs) {
		checkRows(t, "void", strings.ReplaceAll(lines, "_:", instr+":"))
	}
}

// seven is a stack with room for one more.
const seven = "int A null int[] B[] nothing I"

func TestConstants(t *testing.T) {
	checkRows(t, "void", `
		nop: ->
		nop: A int -> A int
		nop: `+seven+` B -> `+seven+` B
		goto: ->
		goto: A int -> A int
		const 7: -> int
		const -7: A -> A int
		const 7: `+seven+` -> `+seven+` int
		const 7: `+seven+` B -> !stack
		null: -> null
		null: A -> A null
		null: `+seven+` -> `+seven+` null
		null: `+seven+` B -> !stack`)
}

func TestLoad(t *testing.T) {
	checkRows(t, "void", `
		load 0: -> int
		load 1: A -> A B
		load 1: `+seven+` -> `+seven+` B
		load 0: `+seven+` B -> !stack
		load 2: -> !type
		load 2: `+seven+` B -> !type
		load 3: -> !argument
		load 7: -> !argument
		load 3: `+seven+` B -> !argument`)
}

func TestStore(t *testing.T) {
	checkRows(t, "void", `
		store 0: int -> 
		store 1: A int[] -> A
		store 2: `+seven+` B -> `+seven+`
		store 0: -> !stack
		store 0: nothing -> !type
		store 2: A nothing -> !type
		store 3: int -> !argument
		store 7: -> !argument
		store 3: nothing -> !argument`)
}

// A local is of whatever type was stored, and no other local changes.
func TestLocalsThatAreStored(t *testing.T) {
	for _, c := range [][3]string{
		{"int", "0", "int B nothing|"}, {"null", "0", "null B nothing|"}, {"A[]", "0", "A[] B nothing|"}, {"A", "1", "int A nothing|"}, {"int", "1", "int int nothing|"},
		{"C", "2", "int B C|"}, {"int[]", "2", "int B int[]|"}, {"I", "2", "int B I|"}, {"A int", "2", "int B int|A"}, {"int A", "2", "int B A|int"},
	} {
		code, at := laid(c[0])
		p := withCode(t, "function t ( int , B ) void locals 3", code+"store "+c[1]+" ; leave ;")
		l := strings.Split(outcome(t, p, "T", "t"), ", ")
		if l[len(l)-1] != c[2] || l[at] != "int B nothing|"+c[0] {
			t.Errorf("%v: %v", c, l)
		}
	}
}

func TestStacks(t *testing.T) {
	checkRows(t, "void", `
		pop: int ->
		pop: A null -> A
		pop: int nothing -> int
		pop: `+seven+` int -> `+seven+`
		pop: -> !stack
		dup: int -> int int
		dup: A B[] -> A B[] B[]
		dup: nothing -> nothing nothing
		dup: `+seven+` -> `+seven+` I
		dup: `+seven+` int -> !stack
		dup: -> !stack
		swap: int A -> A int
		swap: null int nothing -> null nothing int
		swap: nothing I -> I nothing
		swap: `+seven+` C -> int A null int[] B[] nothing C I
		swap: int -> !stack
		swap: -> !stack`)
}

func TestArithmetic(t *testing.T) {
	checkTaking(t, "add sub mul div rem", `
		_: int int -> int
		_: A int int -> A int
		_: -> !stack
		_: int -> !stack
		_: null -> !type
		_: int null -> !type
		_: null int -> !type
		_: A int -> !type
		_: int int[] -> !type
		_: nothing int -> !type
		_: int nothing -> !type`)
	checkRows(t, "void", `
		neg: int -> int
		neg: A int -> A int
		neg: -> !stack
		neg: null -> !type
		neg: int A -> !type
		neg: nothing -> !type`)
}

func TestJumpsOfNumbers(t *testing.T) {
	checkTaking(t, "ifeq ifne iflt ifge", `
		_: int ->
		_: A int -> A
		_: int int -> int
		_: -> !stack
		_: null -> !type
		_: int B -> !type
		_: nothing -> !type`)
	checkTaking(t, "cmpeq cmpne cmplt cmpge", `
		_: int int ->
		_: A int int -> A
		_: -> !stack
		_: int -> !stack
		_: null -> !type
		_: int null -> !type
		_: A int -> !type
		_: nothing int -> !type`)
}

func TestJumpsOfReferences(t *testing.T) {
	checkTaking(t, "ifnull ifref", `
		_: null ->
		_: A ->
		_: int I -> int
		_: int[] ->
		_: B[] ->
		_: Object ->
		_: -> !stack
		_: int -> !type
		_: A int -> !type
		_: nothing -> !type`)
	checkTaking(t, "same other", `
		_: null null ->
		_: A Oops ->
		_: int I int[] -> int
		_: B[] Object ->
		_: -> !stack
		_: A -> !stack
		_: int -> !type
		_: A int -> !type
		_: int A -> !type
		_: nothing A -> !type
		_: A nothing -> !type`)
}

func TestNew(t *testing.T) {
	checkRows(t, "void", `
		new A: -> A
		new T: int -> int T
		new Object: -> Object
		new DepthError: -> DepthError
		new B: `+seven+` -> `+seven+` B
		new B: `+seven+` int -> !stack
		new X: -> !none
		new I: -> !none
		new X: `+seven+` int -> !none
		new I: `+seven+` int -> !none`)
}

func TestFields(t *testing.T) {
	checkRows(t, "void", `
		get A x: A -> int
		get A y: int A -> int B
		get A x: B -> int
		get B x: B -> int
		get B y: null -> B
		get B z: B -> int[]
		get A x: -> !stack
		get A x: int -> !type
		get B x: A -> !type
		get C x: B -> !type
		get A y: Object -> !type
		get A y: I -> !type
		get A y: nothing -> !type
		get A z: -> !none
		get A s: A -> !none
		get A m: A -> !none
		get X x: -> !none
		get I x: -> !none
		get Object x: int -> !none
		put A x: A int ->
		put A y: int A B -> int
		put A y: B null ->
		put B y: B B ->
		put B z: null int[] ->
		put A x: -> !stack
		put A x: int -> !stack
		put A x: null -> !type
		put A y: A -> !type
		put A x: int A -> !type
		put A y: B A -> !type
		put A x: int int -> !type
		put B x: A int -> !type
		put A x: nothing int -> !type
		put A z: -> !none
		put A s: A int -> !none
		put X x: -> !none
		put J x: -> !none`)
}

func TestStatics(t *testing.T) {
	checkRows(t, "void", `
		gets A s: -> int
		gets A r: int -> int B[]
		gets B q: -> I
		gets A s: `+seven+` -> `+seven+` int
		gets A s: `+seven+` int -> !stack
		gets B s: -> !none
		gets A x: -> !none
		gets A u: -> !none
		gets C r: -> !none
		gets X s: -> !none
		gets I s: -> !none
		gets Object s: -> !none
		gets B s: `+seven+` int -> !none
		puts A s: int ->
		puts A r: A null -> A
		puts A r: B[] ->
		puts B q: B ->
		puts B q: J ->
		puts A s: -> !stack
		puts A s: null -> !type
		puts A s: nothing -> !type
		puts A r: B -> !type
		puts A r: A[] -> !type
		puts B q: A -> !type
		puts B s: -> !none
		puts A x: int -> !none
		puts X s: -> !none
		puts I s: -> !none`)
}

func TestRows(t *testing.T) {
	checkRows(t, "void", `
		ints: int -> int[]
		ints: A int -> A int[]
		ints: -> !stack
		ints: null -> !type
		ints: nothing -> !type
		refs A: int -> A[]
		refs I: A int -> A I[]
		refs Object: int -> Object[]
		refs NumError: int -> NumError[]
		refs A: -> !stack
		refs A: null -> !type
		refs X: -> !none
		refs X: null -> !none
		len: int[] -> int
		len: A B[] -> A int
		len: -> !stack
		len: int -> !type
		len: null -> !type
		len: Object -> !type
		len: A -> !type
		len: nothing -> !type`)
}

func TestElements(t *testing.T) {
	checkRows(t, "void", `
		at: int[] int -> int
		at: B[] int -> B
		at: A I[] int -> A I
		at: -> !stack
		at: int -> !stack
		at: null -> !type
		at: int[] -> !type
		at: int[] null -> !type
		at: null int -> !type
		at: int int -> !type
		at: Object int -> !type
		at: nothing int -> !type
		set: int[] int int ->
		set: A[] int A ->
		set: int A[] int B -> int
		set: I[] int B ->
		set: Object[] int int[] ->
		set: B[] int null ->
		set: -> !stack
		set: int -> !stack
		set: int int -> !stack
		set: null null -> !stack
		set: null int int -> !type
		set: Object int int -> !type
		set: A int A -> !type
		set: nothing int int -> !type
		set: int[] int A -> !type
		set: int[] int null -> !type
		set: int[] int nothing -> !type
		set: int[] null int -> !type
		set: int[] int int int -> !type
		set: A[] A int -> !type
		set: A[] A A -> !type
		set: B[] int A -> !type
		set: B[] int I -> !type
		set: B[] int int -> !type`)
}

func TestKinds(t *testing.T) {
	checkRows(t, "void", `
		is A: A -> int
		is A: null -> int
		is I: int C -> int int
		is Object: int[] -> int
		is B: A[] -> int
		is NumError: Object -> int
		is A: -> !stack
		is A: int -> !type
		is A: nothing -> !type
		is X: -> !none
		is X: int -> !none
		cast A: B -> A
		cast B: A -> B
		cast I: int null -> int I
		cast A: int[] -> A
		cast Object: A[] -> Object
		cast Oops: I -> Oops
		cast A: -> !stack
		cast A: int -> !type
		cast A: nothing -> !type
		cast X: -> !none
		cast X: int -> !none`)
}

func TestCalls(t *testing.T) {
	checkRows(t, "void", `
		call A m: A int B -> A
		call A m: int C int null -> int A
		call B m: B int B -> A
		call A m: null int B -> A
		call I f: I int -> int
		call I f: B int -> int
		call J f: J int -> int
		call B f: B int -> int
		call J g: int J -> int
		call B g: B ->
		call A m: -> !stack
		call A m: B -> !stack
		call A m: int B -> !stack
		call A m: A -> !type
		call A m: A B -> !type
		call A m: A int A -> !type
		call A m: A B int -> !type
		call A m: A null B -> !type
		call A m: Object int B -> !type
		call A m: int int B -> !type
		call A m: nothing int B -> !type
		call B m: A int B -> !type
		call I f: A int -> !type
		call J f: I int -> !type
		call A u: B int -> !none
		call A n: -> !none
		call A f: A int -> !none
		call A x: A -> !none
		call I g: I -> !none
		call Object m: -> !none
		call X m: -> !none`)
}

func TestFunctions(t *testing.T) {
	checkRows(t, "void", `
		func A u: B int ->
		func A u: A null int -> A
		func B u: B int ->
		func A v: -> int[]
		func C v: A -> A int[]
		func A v: `+seven+` -> `+seven+` int[]
		func A v: `+seven+` int -> !stack
		func A u: -> !stack
		func A u: int -> !stack
		func A u: B -> !type
		func A u: int B -> !type
		func A u: A int -> !type
		func A u: nothing int -> !type
		func A m: A int B -> !none
		func B f: B int -> !none
		func I f: I int -> !none
		func A n: -> !none
		func A s: -> !none
		func Object v: -> !none
		func X u: -> !none
		func X v: `+seven+` int -> !none`)
}

func TestEnds(t *testing.T) {
	checkRows(t, "void", `
		leave: -> -
		leave: A int -> -
		ret: int -> !type
		ret: -> !type
		throw: Error -> -
		throw: int Oops -> -
		throw: null -> -
		throw: -> !stack
		throw: int -> !type
		throw: Object -> !type
		throw: A -> !type
		throw: nothing -> !type`)
	checkRows(t, "int", `
		ret: int -> -
		ret: A int -> -
		ret: -> !stack
		ret: null -> !type
		ret: int A -> !type
		ret: nothing -> !type
		leave: -> !type
		leave: int -> !type`)
	checkRows(t, "A", `
		ret: A -> -
		ret: B -> -
		ret: null -> -
		ret: -> !stack
		ret: Object -> !type
		ret: I -> !type
		ret: int -> !type
		leave: A -> !type`)
	checkRows(t, "I [ ]", `
		ret: I[] -> -
		ret: null -> -
		ret: J[] -> !type
		ret: Object -> !type`)
}

// instrsOf answers all instructions of a word, with such arguments as matter.
func instrsOf(word string) []string {
	switch word {
	case "const":
		return []string{"const 5"}
	case "load", "store":
		return []string{word + " 0", word + " 1", word + " 2", word + " 3"}
	case "new", "refs", "is", "cast":
		return []string{word + " A", word + " I", word + " Oops", word + " X"}
	case "get", "put":
		return []string{word + " A x", word + " B y", word + " A z", word + " I x"}
	case "gets", "puts":
		return []string{word + " A s", word + " B q", word + " B s"}
	case "call":
		return []string{"call A m", "call J f", "call B g", "call A u"}
	case "func":
		return []string{"func A u", "func B v", "func B f"}
	}
	return []string{word}
}

// stacksOf answers all stacks of so many of these types.
func stacksOf(n int, types string) []string {
	if n == 0 {
		return []string{""}
	}
	var l []string
	for _, low := range stacksOf(n-1, types) {
		for _, top := range strings.Fields(types) {
			l = append(l, low+" "+top)
		}
	}
	return l
}

// Every instruction, with a few arguments, is done to every stack of up to two of these types; set and call, which may take
// three, to those of three of a few types, too.
func TestAllSmallStacksAsPlain(t *testing.T) {
	all, few := "int null nothing int[] A[] A B I Object Oops", "int null A[] B"
	p := withCode(t, "function t ( ) void locals 0", "leave ;")
	m := plainOf(p)
	for op := range api.Ops {
		for _, instr := range instrsOf(parse.Word(op)) {
			stacks := append(append(stacksOf(0, all), stacksOf(1, all)...), stacksOf(2, all)...)
			if op == api.OpSet || op == api.OpCall {
				stacks = append(stacks, stacksOf(3, few)...)
			}
			for _, stack := range stacks {
				checkInstr(t, m, stack, instr)
			}
		}
	}
}

// checkInstr holds what an instruction does to a stack against the model.
func checkInstr(t *testing.T, m plainModel, stack, instr string) {
	t.Helper()
	ret := "void"
	if instr == "ret" {
		ret = "A"
	}
	word, _, _ := strings.Cut(instr, " ")
	op, _ := parse.Op(word)
	args := append(strings.Fields(instr)[1:], "", "")
	i := api.Instr{Op: op, A: args[0], B: args[1]}
	if n, err := strconv.Atoi(args[0]); err == nil {
		i.A, i.N = "", n
	}
	s := plainState{plainModel: m, locals: strings.Fields(locals), stack: strings.Fields(stack)}
	f := api.Method{Ret: api.Type{Kind: api.Void}}
	if ret == "A" {
		f.Ret = typeOf("A")
	}
	e := caught(func() { s.do(i, f) })
	want := strings.Join(s.stack, " ")
	if e != api.OK {
		want = "!" + e.Error()
	} else if op == api.OpRet || op == api.OpLeave || op == api.OpThrow {
		want = "-"
	}
	if got := after(t, ret, stack, instr); got != want {
		t.Errorf("%s:%s -> %s, not %s", instr, stack, got, want)
	}
}
