package flow

import (
	"slices"
	"strings"
	"testing"

	"delver/api"
)

// checkStates holds what States answers of t, and Check and the model to the same.
func checkStates(t *testing.T, head, code, want string) {
	t.Helper()
	p := withCode(t, head, code)
	if got := outcome(t, p, "T", "t"); got != want {
		t.Errorf("%s { %s }: %s, not %s", head, code, got, want)
	}
	checkAsPlain(t, p)
}

// bare is the head of a method without parameters and locals.
const bare = "function t ( ) void locals 0"

func TestExampleOfTheChapter(t *testing.T) {
	checkStates(t, bare, "null ; throw ;", "|, |null")
}

func TestBeginnings(t *testing.T) {
	for head, want := range map[string]string{
		bare:                               "|",
		"function t ( ) void locals 3":     "nothing nothing nothing|",
		"function t ( int ) void locals 1": "int|",
		"function t ( B , int [ ] , A [ ] , I ) void locals 6": "B int[] A[] I nothing nothing|",
		"method t ( ) void locals 1":                           "T|",
		"method t ( ) void locals 8":                           "T nothing nothing nothing nothing nothing nothing nothing|",
		"method t ( Object , int ) void locals 3":              "T Object int|",
		"method t ( T , T [ ] ) void locals 4":                 "T T T[] nothing|",
	} {
		checkStates(t, head, "leave ;", want)
	}
}

func TestMethodsOfAnObjectOfASuper(t *testing.T) {
	p := read(t, "class A { method f ( ) int locals 2 { const 1 ; ret ; } method g ( ) A locals 1 { load 0 ; ret ; } } class B extends A { method f ( ) int locals 1 { const 2 ; ret ; } }")
	for _, c := range [][3]string{{"A", "f", "A nothing|, A nothing|int"}, {"B", "f", "B|, B|int"}, {"A", "g", "A|, A|A"}} {
		if got := outcome(t, p, c[0], c[1]); got != c[2] {
			t.Error(c, got)
		}
	}
	checkAsPlain(t, p)
}

func TestMethodsWithoutRoom(t *testing.T) {
	for _, c := range [][2]string{
		{bare, ""}, {"method t ( ) int locals 8", ""}, {bare, "catch X 9 3 40 ;"},
		{"function t ( int ) void locals 0", "leave ;"}, {"method t ( ) void locals 0", "leave ;"}, {"method t ( int ) void locals 1", "leave ;"},
		{"function t ( int , int , int , int ) void locals 3", "leave ;"}, {"method t ( int , int , int , int ) void locals 4", "pop ;"}, {"method t ( int , A ) void locals 2", "goto 9 ; catch X 9 3 40 ;"},
	} {
		checkStates(t, c[0], c[1], "length at 0")
	}
}

func TestFaultsOfCatches(t *testing.T) {
	for _, c := range [][2]string{
		// places
		{"catch Error 0 0 1 ;", "jump"}, {"catch Error 2 1 1 ;", "jump"}, {"catch Error 2 2 1 ;", "jump"}, {"catch Error 0 3 1 ;", "jump"}, {"catch Error 0 48 1 ;", "jump"}, {"catch Error 0 1 2 ;", "jump"}, {"catch Error 0 1 48 ;", "jump"},
		// names
		{"catch X 0 1 1 ;", "none"}, {"catch t 0 1 1 ;", "none"}, {"catch Object 0 1 1 ;", "type"}, {"catch T 0 1 1 ;", "type"}, {"catch I 0 1 1 ;", "type"},
		// places ahead of names, one catch ahead of another one
		{"catch X 1 1 1 ;", "jump"}, {"catch X 0 3 1 ;", "jump"}, {"catch X 0 1 2 ;", "jump"}, {"catch T 0 1 2 ;", "jump"},
		{"catch T 0 1 1 ; catch X 0 1 1 ;", "type"}, {"catch X 0 1 1 ; catch T 0 1 1 ;", "none"}, {"catch X 0 1 1 ; catch Error 0 0 1 ;", "none"}, {"catch T 0 1 1 ; catch Error 0 0 1 ;", "type"},
		{"catch Oops 1 2 1 ; catch Error 1 2 1 ; catch NumError 1 2 1 ; catch A 1 2 1 ;", "type"}, {"catch Oops 1 2 1 ; catch Error 1 1 1 ; catch X 1 2 1 ;", "jump"},
	} {
		// that its code is wrong, too, is told later
		checkStates(t, bare, "pop ; goto 9 ; "+c[0], c[1]+" at 0")
	}
}

func TestCatches(t *testing.T) {
	for _, c := range []struct{ head, code, want string }{
		// from From on, below To; the place of the catch is reached by a stack of what is caught alone
		{bare, "nop ; nop ; leave ; pop ; leave ; catch Oops 1 2 3 ;", "|, |, |, |Oops, |"},
		{bare, "goto 3 ; pop ; leave ; nop ; leave ; catch Error 4 5 1 ;", "|, |Error, |, |, |"},
		{bare, "const 1 ; const 2 ; add ; pop ; leave ; throw ; catch Error 2 3 5 ;", "|, |int, |int int, |int, |, |Error"},
		{bare, "leave ; throw ; catch NullError 0 2 1 ;", "|, |NullError"},
		// a place that is never gone through reaches none
		{bare, "leave ; nop ; pop ; leave ; catch Error 1 2 2 ;", "|, -, -, -"},
		// two that are caught at one place, one that is caught at two
		{bare, "leave ; throw ; catch NullError 0 1 1 ; catch NumError 0 1 1 ;", "|, |Error"},
		{bare, "leave ; throw ; throw ; catch Oops 0 1 2 ; catch Error 0 1 1 ;", "|, |Error, |Oops"},
		{bare, "nop ; leave ; throw ; catch Oops 0 1 2 ; catch NumError 1 2 2 ;", "|, |, |NumError"},
		{bare, "new Oops ; throw ; throw ; catch Oops 1 2 2 ; catch NullError 2 3 2 ;", "|, |Oops, |Error"},
		// the locals are those ahead of what is done there
		{"function t ( ) void locals 1", "const 1 ; store 0 ; leave ; throw ; catch Error 1 2 3 ;", "nothing|, nothing|int, int|, nothing|Error"},
		{"function t ( ) void locals 1", "const 1 ; store 0 ; nop ; leave ; throw ; catch Error 2 3 4 ;", "nothing|, nothing|int, int|, int|, int|Error"},
		// the place is reached again, by other locals
		{"function t ( A ) void locals 1", "new B ; store 0 ; leave ; throw ; catch Error 1 3 3 ;", "A|, A|B, B|, A|Error"},
		{"function t ( A ) void locals 1", "const 0 ; store 0 ; leave ; throw ; catch Error 1 3 3 ;", "A|, A|int, int|, nothing|Error"},
		// and by another stack
		{bare, "null ; throw ; catch Error 0 1 1 ;", "|, |Error"},
		{bare, "const 1 ; pop ; leave ; catch Error 0 1 1 ;", "|, |nothing, |"},
		{bare, "nop ; pop ; leave ; catch Error 0 1 1 ;", "stack at 0"},
		{bare, "nop ; leave ; catch Error 1 2 1 ;", "stack at 1"},
		{bare, "const 1 ; const 1 ; pop ; pop ; leave ; catch Error 3 4 2 ;", "stack at 3"},
		// catches are reached ahead of what is done, and of where it goes on, in their order
		{bare, "nop ; pop ; catch Error 1 2 0 ;", "stack at 1"},
		{bare, "nop ; new X ; leave ; catch Error 1 2 0 ;", "stack at 1"},
		{bare, "nop ; goto 9 ; catch Error 1 2 0 ;", "stack at 1"},
		{bare, "nop ; leave ; pop ; leave ; catch Error 1 2 2 ; catch Error 1 2 0 ;", "stack at 1"},
	} {
		checkStates(t, c.head, c.code, c.want)
	}
}

// A place that its own catch changes is done as it was, and is gone through again.
func TestCatchesOfTheirOwnPlace(t *testing.T) {
	for _, c := range [][2]string{
		{"null ; throw ; catch Oops 1 2 1 ;", "|, |Oops"},
		{"null ; dup ; pop ; pop ; leave ; catch Oops 1 2 1 ;", "|, |Oops, |Oops Oops, |Oops, |"},
		{"const 0 ; pop ; leave ; catch Oops 1 2 1 ;", "|, |nothing, |"},
		{"goto 2 ; leave ; const 0 ; ifeq 1 ; leave ; catch Error 3 4 3 ;", "type at 3"},
		{"goto 3 ; pop ; leave ; const 0 ; ifeq 1 ; leave ; catch Error 4 5 4 ;", "stack at 1"},
	} {
		checkStates(t, bare, c[0], c[1])
	}
}

func TestJumpsThatAreNoPlaces(t *testing.T) {
	for _, c := range [][2]string{
		{"nop ;", "jump at 0"}, {"const 1 ; pop ;", "jump at 1"}, {"goto 1 ;", "jump at 0"}, {"nop ; goto 47 ; leave ;", "jump at 1"},
		{"const 0 ; ifeq 3 ; leave ;", "jump at 1"}, {"const 0 ; ifne 2 ; leave ;", "|, |int, |"}, {"null ; ifnull 2 ;", "jump at 1"}, {"null ; ifref 0 ;", "jump at 1"},
		{"null ; null ; same 4 ; leave ;", "jump at 2"}, {"null ; null ; other 0 ;", "jump at 2"}, {"const 1 ; const 1 ; cmplt 0 ;", "jump at 2"}, {"const 1 ; const 1 ; cmpge 40 ; leave ;", "jump at 2"},
		{"func A v ; pop ;", "jump at 1"}, {"leave ; nop ;", "|, -"}, {"leave ; goto 9 ;", "|, -"}, {"null ; throw ;", "|, |null"},
		// asked behind what is done, ahead of what is reached
		{"pop ;", "stack at 0"}, {"const 1 ; ifnull 9 ;", "type at 1"}, {"goto 2 ; leave ; pop ;", "stack at 2"},
		{"null ; const 0 ; ifeq 0 ;", "jump at 2"}, {"const 0 ; ifeq 5 ; null ; const 0 ; ifeq 9 ; leave ;", "jump at 4"}, {"null ; const 0 ; ifeq 9 ;", "jump at 2"},
	} {
		checkStates(t, bare, c[0], c[1])
	}
}

func TestWaysThatMeet(t *testing.T) {
	head := "function t ( int ) void locals 2"
	for _, c := range [][2]string{
		// locals: the same, in a type above both, in Nothing
		{"load 0 ; ifeq 5 ; const 1 ; store 1 ; goto 7 ; const 2 ; store 1 ; leave ;", "int nothing|, int nothing|int, int nothing|, int nothing|int, int int|, int nothing|, int nothing|int, int int|"},
		{"load 0 ; ifeq 5 ; new B ; store 1 ; goto 7 ; new C ; store 1 ; leave ;", "int nothing|, int nothing|int, int nothing|, int nothing|B, int B|, int nothing|, int nothing|C, int A|"},
		{"load 0 ; ifeq 5 ; new Oops ; store 1 ; goto 7 ; null ; store 1 ; leave ;", "int nothing|, int nothing|int, int nothing|, int nothing|Oops, int Oops|, int nothing|, int nothing|null, int Oops|"},
		{"load 0 ; ifeq 5 ; const 1 ; store 1 ; goto 7 ; null ; store 1 ; leave ;", "int nothing|, int nothing|int, int nothing|, int nothing|int, int int|, int nothing|, int nothing|null, int nothing|"},
		{"load 0 ; ifeq 4 ; null ; store 1 ; leave ;", "int nothing|, int nothing|int, int nothing|, int nothing|null, int nothing|"},
		{"null ; store 1 ; load 0 ; ifeq 6 ; const 3 ; store 0 ; leave ;", "int nothing|, int nothing|null, int null|, int null|int, int null|, int null|int, int null|"},
		// stacks
		{"load 0 ; ifeq 4 ; new B ; goto 5 ; new C ; pop ; leave ;", "int nothing|, int nothing|int, int nothing|, int nothing|B, int nothing|, int nothing|A, int nothing|"},
		{"load 0 ; ifeq 4 ; const 1 ; goto 5 ; null ; pop ; leave ;", "int nothing|, int nothing|int, int nothing|, int nothing|int, int nothing|, int nothing|nothing, int nothing|"},
		{"const 5 ; ints ; load 0 ; ifeq 6 ; pop ; new A ; leave ;", "int nothing|, int nothing|int, int nothing|int[], int nothing|int[] int, int nothing|int[], int nothing|, int nothing|Object"},
		{"null ; load 0 ; ifeq 6 ; pop ; new C ; nop ; leave ;", "int nothing|, int nothing|null, int nothing|null int, int nothing|null, int nothing|, int nothing|C, int nothing|C"},
		// what has met is what it has met in
		{"load 0 ; ifeq 4 ; const 1 ; goto 5 ; null ; store 1 ; leave ;", "type at 5"},
		{"load 0 ; ifeq 4 ; new B ; goto 5 ; new C ; get B z ; leave ;", "type at 5"},
		{"load 0 ; ifeq 4 ; null ; store 1 ; load 1 ; pop ; leave ;", "type at 4"},
		// stacks of unlike heights
		{"load 0 ; ifeq 3 ; const 1 ; leave ;", "stack at 2"}, {"const 1 ; goto 0 ;", "stack at 1"}, {"null ; load 0 ; ifeq 4 ; pop ; leave ;", "stack at 3"}, {"load 0 ; ifeq 0 ; load 0 ; goto 0 ;", "stack at 3"},
		{"const 1 ; const 1 ; const 1 ; goto 2 ;", "stack at 3"}, {"load 0 ; ifeq 4 ; const 1 ; pop ; load 0 ; ifne 3 ; leave ;", "stack at 5"},
		// a jump to the next place reaches it twice
		{"load 0 ; ifge 2 ; leave ;", "int nothing|, int nothing|int, int nothing|"},
	} {
		checkStates(t, head, c[0], c[1])
	}
}

// Of three it matters which two meet first: the least place that is due comes first.
func TestWaysThatMeetByTurns(t *testing.T) {
	p := read(t, `interface I { } class A implements I { } class D implements I { } class T {
		function f ( int , I ) void locals 2 { load 0 ; iflt 9 ; load 0 ; ifeq 7 ; new A ; store 1 ; goto 9 ; new D ; store 1 ; leave ; }
		function g ( int , I ) void locals 2 { load 0 ; iflt 6 ; load 0 ; ifeq 8 ; load 0 ; ifne 11 ; new A ; goto 12 ; new D ; goto 12 ; nop ; load 1 ; pop ; leave ; }
		function h ( int , I ) void locals 2 { load 0 ; iflt 6 ; load 0 ; ifeq 8 ; load 0 ; ifne 11 ; load 1 ; goto 12 ; new D ; goto 12 ; nop ; new A ; pop ; leave ; } }`)
	for name, want := range map[string]string{"f": "int I|", "g": "int I|Object", "h": "int I|I"} {
		l, at, e := States(p, "T", name)
		k := slices.IndexFunc(p.Classes[3].Methods, func(m api.Method) bool { return m.Name == name })
		var meets []string
		for i, s := range l {
			if op := p.Classes[3].Methods[k].Code[i].Op; op == api.OpPop || name == "f" && op == api.OpLeave {
				meets = append(meets, toldStates([]api.State{s}))
			}
		}
		if e != api.OK || len(meets) != 1 || meets[0] != want {
			t.Error(name, meets, e, at)
		}
	}
	checkAsPlain(t, p)
}

func TestLoops(t *testing.T) {
	for _, c := range []struct{ head, code, want string }{
		// one that changes nothing
		{"function t ( int ) int locals 2", "const 0 ; store 1 ; load 1 ; load 0 ; cmpge 9 ; load 1 ; const 1 ; add ; goto 1 ; load 1 ; ret ;",
			"int nothing|, int nothing|int, int int|, int int|int, int int|int int, int int|, int int|int, int int|int int, int int|int, int int|, int int|int"},
		{bare, "goto 0 ;", "|"}, {bare, "nop ; goto 0 ;", "|, |"}, {bare, "goto 2 ; leave ; goto 1 ;", "|, |, |"},
		// one that changes places that were gone through
		{"function t ( int , B ) void locals 3", "load 1 ; store 2 ; load 0 ; ifeq 7 ; new C ; store 2 ; goto 2 ; leave ;",
			"int B nothing|, int B nothing|B, int B A|, int B A|int, int B A|, int B A|C, int B C|, int B A|"},
		{"function t ( int ) void locals 2", "null ; store 1 ; load 1 ; pop ; load 0 ; ifeq 9 ; new Oops ; store 1 ; goto 2 ; leave ;",
			"int nothing|, int nothing|null, int Oops|, int Oops|Oops, int Oops|, int Oops|int, int Oops|, int Oops|Oops, int Oops|, int Oops|"},
		{"function t ( int ) void locals 1", "null ; load 0 ; ifeq 6 ; pop ; new Oops ; goto 1 ; leave ;", "int|, int|Oops, int|Oops int, int|Oops, int|, int|Oops, int|Oops"},
		{"function t ( int ) void locals 1", "const 9 ; load 0 ; ifeq 6 ; pop ; null ; goto 1 ; leave ;", "int|, int|nothing, int|nothing int, int|nothing, int|, int|null, int|nothing"},
		// it changes them more than once: by the loop inside, by the one outside
		{"function t ( int ) void locals 2", "new B ; store 1 ; load 0 ; ifeq 6 ; new A ; store 1 ; load 0 ; ifne 12 ; const 1 ; ints ; store 1 ; goto 2 ; leave ;",
			"int nothing|, int nothing|B, int Object|, int Object|int, int Object|, int Object|A, int Object|, int Object|int, int Object|, int Object|int, int Object|int[], int int[]|, int Object|"},
		// and then a place is wrong
		{"function t ( int ) void locals 2", "const 1 ; store 1 ; load 1 ; pop ; load 0 ; ifeq 9 ; null ; store 1 ; goto 2 ; leave ;", "type at 2"},
		{"function t ( int ) void locals 2", "const 1 ; store 1 ; load 1 ; neg ; store 1 ; load 0 ; ifeq 10 ; null ; store 1 ; goto 2 ; leave ;", "type at 2"},
		{"function t ( int , B ) void locals 2", "load 1 ; get B z ; pop ; load 0 ; ifeq 8 ; new C ; store 1 ; goto 0 ; leave ;", "type at 1"},
		// the least place comes first, though another one was due longer
		{"function t ( int ) void locals 2", "const 1 ; store 1 ; load 0 ; ifeq 9 ; load 1 ; pop ; null ; store 1 ; goto 2 ; pop ; leave ;", "type at 4"},
		{"function t ( int ) void locals 2", "goto 3 ; pop ; leave ; load 0 ; ifeq 1 ; pop ; leave ;", "stack at 1"},
		{"function t ( int ) void locals 2", "load 0 ; ifeq 5 ; nop ; nop ; pop ; pop ; leave ;", "stack at 4"},
		{"function t ( int ) void locals 2", "goto 6 ; nop ; goto 4 ; leave ; pop ; leave ; load 0 ; iflt 1 ; load 0 ; ifeq 9 ; pop ; leave ;", "stack at 4"},
	} {
		checkStates(t, c.head, c.code, c.want)
	}
}

func TestPlacesThatAreNeverReached(t *testing.T) {
	for _, c := range [][2]string{
		{"leave ; pop ; add ; new X ; goto 40 ;", "|, -, -, -, -"}, {"goto 2 ; pop ; leave ;", "|, -, |"}, {"const 1 ; ifeq 4 ; leave ; pop ; leave ;", "|, |int, |, -, |"},
		{"null ; throw ; leave ;", "|, |null, -"}, {"goto 0 ; leave ;", "|, -"}, {"goto 3 ; nop ; goto 1 ; leave ;", "|, -, -, |"},
	} {
		checkStates(t, bare, c[0], c[1])
	}
}

func TestLongCodeAndHighStacks(t *testing.T) {
	checkStates(t, bare, strings.Repeat("nop ; ", api.MaxCode-1)+"leave ;", strings.Repeat("|, ", api.MaxCode-1)+"|")
	checkStates(t, bare, strings.Repeat("nop ; ", api.MaxCode-1)+"pop ;", "stack at 47")
	checkStates(t, bare, strings.Repeat("nop ; ", api.MaxCode), "jump at 47")
	checkStates(t, bare, "goto 47 ; "+strings.Repeat("nop ; ", api.MaxCode-2)+"leave ;", "|, "+strings.Repeat("-, ", api.MaxCode-2)+"|")
	high := strings.Repeat("const 1 ; ", api.MaxStack)
	checkStates(t, bare, high+"leave ;", "|, |int, |int int, |int int int, |int int int int, |int int int int int, |int int int int int int, |int int int int int int int, |int int int int int int int int")
	checkStates(t, bare, high+"null ; leave ;", "stack at 8")
	checkStates(t, bare, high+"add ; dup ; dup ; leave ;", "stack at 10")
}

func TestMethodsThatAreNotThere(t *testing.T) {
	p := withCode(t, bare, "leave ;")
	for _, c := range [][2]string{
		{"X", "t"}, {"", ""}, {"", "t"}, {"T", ""}, {"T", "x"}, {"t", "T"}, {"Object", "t"}, {"Error", "t"}, {"T ", "t"},
		// one of its super, a field, an interface's
		{"B", "m"}, {"C", "u"}, {"A", "x"}, {"A", "s"}, {"I", "f"}, {"J", "f"}, {"J", "g"}, {strings.Repeat("n", 10000), strings.Repeat("n", 10000)},
	} {
		if got := outcome(t, p, c[0], c[1]); got != "none at 0" {
			t.Error(c, got)
		}
	}
	for _, c := range [][3]string{{"T", "t", "|"}, {"A", "m", "A int B|, A int B|A"}, {"B", "f", "B int|, B int|int"}, {"A", "v", "|, |null"}} {
		if got := outcome(t, p, c[0], c[1]); got != c[2] {
			t.Error(c, got)
		}
	}
	if got := outcome(t, api.Program{}, "T", "t"); got != "none at 0" {
		t.Error(got)
	}
}

// refused are programs that layout.Check refuses, and why; what their methods do is wrong, too.
func refused(t *testing.T) map[string]api.Program {
	t.Helper()
	body := " function t ( ) void locals 0 { nop ; pop ; } "
	return map[string]api.Program{
		"twice": read(t, "class T {"+body+"} class T {"+body+"}"),
		"none":  read(t, "class T {"+body+"field x : X ; }"),
		"ring":  read(t, "class T extends T {"+body+"}"),
		"form":  {Classes: []api.Class{{Name: "T", Methods: []api.Method{{Name: "t", Static: true, Ret: api.Type{Kind: api.Void}, Code: []api.Instr{{Op: api.Ops}}}}}}},
		"type":  read(t, "class T {"+body+"} class U extends T { method t ( ) void locals 1 { leave ; } }"),
	}
}

func TestProgramsThatAreRefused(t *testing.T) {
	for want, p := range refused(t) {
		for _, c := range [][2]string{{"T", "t"}, {"U", "t"}, {"X", "x"}, {"", ""}} {
			if got := outcome(t, p, c[0], c[1]); got != want+" at 0" {
				t.Error(want, c, got)
			}
		}
		if got := checked(p); got != " of : "+want+" at 0" {
			t.Error(want, got)
		}
	}
	// an argument that is too great, or below 0, is layer 3's
	for _, i := range []api.Instr{{Op: -1}, {Op: api.Ops}, {Op: api.OpLoad, N: -1}, {Op: api.OpLoad, N: api.MaxLocals}, {Op: api.OpGoto, N: -1}, {Op: api.OpGoto, N: 1 << 40}, {Op: api.OpNew}, {Op: api.OpGet, A: "T"}, {Op: api.OpNop, A: "T"}} {
		p := withCode(t, bare, "leave ;")
		p.Classes[0].Methods[0].Code = []api.Instr{i, {Op: api.OpLeave}}
		if got := outcome(t, p, "T", "t") + " " + checked(p); got != "form at 0  of : form at 0" {
			t.Error(i, got)
		}
	}
}
