package step

import (
	"fmt"
	"math"
	"strings"
	"testing"

	"delver/api"
	"delver/heap"
)

// asked is a program with methods to be asked of.
const asked = `
class T extends S { static a : int ; static b : T [ ] ;
	function none ( ) int locals 2 { const 1 ; ret ; }
	function nodes ( int , Node , int [ ] ) void locals 5 { nop ; leave ; }
	function two ( Node , Node ) void locals 2 { leave ; }
	function ring ( ) void locals 0 { nop ; goto 0 ; }
	function count ( int ) int locals 1 { load 0 ; const 1 ; add ; store 0 ; load 0 ; const 1700 ; cmpne 0 ; load 0 ; ret ; }
	method m ( ) int locals 1 { const 1 ; ret ; }
}
class S { static c : Node ; function up ( ) void locals 0 { leave ; } function none ( ) int locals 0 { const 2 ; ret ; } }
interface I { method m ( ) int ; }
class Node { field next : Node ; field n : int ; static d : int ; function none ( ) int locals 0 { const 3 ; ret ; } }
`

// The beginning: the input's heap, the statics' noughts, the arguments, then ints of 0.
func TestBegin(t *testing.T) {
	p := read(t, asked)
	for _, c := range [][3]string{
		{"T none", "", "runs 0: 0 ; 0 - - 0 > T.none 0 (0 0) "}, {"S none", "", "runs 0: 0 ; 0 - - 0 > S.none 0 () "}, {"S up", "", "runs 0: 0 ; 0 - - 0 > S.up 0 () "}, {"Node none", "", "runs 0: 0 ; 0 - - 0 > Node.none 0 () "},
		{"T nodes", "7 - -", "runs 0: 0 ; 0 - - 0 > T.nodes 0 (7 - - 0 0) "}, {"T nodes", "-2147483648 @1 @0 | int[] 4 5 6 | Node @2 2147483647 | Node @2 0", "runs 0: 0 | int[] 4 5 6 | Node @2 2147483647 | Node @2 0 ; 0 - - 0 > T.nodes 0 (-2147483648 @1 @0 0 0) "}, {"T two", "@0 @0 | Node @0 5", "runs 0: 0 | Node @0 5 ; 0 - - 0 > T.two 0 (@0 @0) "},
	} {
		class, method, _ := strings.Cut(c[0], " ")
		r, e := Begin(p, class, method, inputOf(c[1]))
		if told(r) != c[2] || e != api.OK || Frames(r) != 1 {
			t.Errorf("%s of %s: %s, not %s (%d)", c[0], c[1], told(r), c[2], e)
		}
		if r, e := After(p, class, method, inputOf(c[1]), 0); told(r) != c[2] || e != api.OK {
			t.Errorf("%s of %s: %s behind 0 steps (%d)", c[0], c[1], told(r), e)
		}
		checkAsPlain(t, p, class, method, inputOf(c[1]), 5)
	}
}

// Statics stand in the order of all classes, whoever they come of.
func TestStaticsOfAllClasses(t *testing.T) {
	p := read(t, "class C extends B { static e : int ; field x : int ; static f : C ; } class A { function t ( ) void locals 0 { const 1 ; puts B d ; const 2 ; puts A c ; const 3 ; puts C e ; new C ; puts C f ; leave ; } static a : int [ ] ; static c : int ; } class B extends A { static c : A [ ] ; static d : int ; }")
	for n, want := range map[int]string{0: "runs 0: 0 ; 0 - - 0 - 0 > A.t 0 () ", 2: "runs 2: 0 ; 0 - - 0 - 1 > A.t 2 () ", 9: "returned 9: 0 | C 0 ; 3 @0 - 2 - 1"} {
		r, e := After(p, "A", "t", api.Input{}, n)
		if told(r) != want || e != api.OK {
			t.Error(n, told(r), e)
		}
	}
}

// How many steps are done: as many as asked, or as many as there are.
func TestAfterSoManySteps(t *testing.T) {
	p := read(t, asked)
	for _, n := range []int{0, 1, 2, 3, 119, 120, 121, 4999, 5000, 9999, 10000} {
		if r, e := After(p, "T", "ring", api.Input{}, n); r.Steps != n || r.How != api.Runs || Frames(r) != 1 || r.Frames[0].Pc != n%2 || e != api.OK {
			t.Error(n, told(r), e)
		}
		want := min(n, 2)
		if r, e := After(p, "T", "none", api.Input{}, n); r.Steps != want || (r.How == api.Returned) != (want == 2) || e != api.OK {
			t.Error(n, told(r), e)
		}
		// 7 steps for each number from 1 on, and two more
		r, e := After(p, "T", "count", inputOf("272"), n)
		if n == 10000 && told(r) != "returned 9998: 1700 ; 0 - - 0" || n < 9998 && (r.Steps != n || r.How != api.Runs || r.Frames[0].Locals[0].N != 272+(n+3)/7) || e != api.OK {
			t.Error(n, told(r), e)
		}
	}
	if r, e := After(p, "T", "count", inputOf("271"), 10000); told(r) != "runs 10000: 0 ; 0 - - 0 > T.count 4 (1700) " || e != api.OK {
		t.Error(told(r), e)
	}
}

func TestAfterNumbersThatMayNotBe(t *testing.T) {
	p := read(t, asked)
	for _, n := range []int{-1, -2, 10001, 10002, 20000, 1 << 32, 1<<32 + 1, math.MinInt, math.MaxInt} {
		for _, method := range []string{"none", "ring"} {
			if r, e := After(p, "T", method, api.Input{}, n); !isZero(r) || e != api.ErrArg {
				t.Error(n, told(r), e)
			}
		}
	}
}

func isZero(r api.Run) bool { return fmt.Sprint(r) == fmt.Sprint(api.Run{}) }

// Each error of heap.Check is told by both, ahead of a number that may not be.
func TestErrorsOfInputs(t *testing.T) {
	for _, c := range []struct {
		e              api.Errno
		text, name, in string
	}{
		{api.ErrForm, "", "A t", ""}, {api.ErrTwice, "class A { } class A { }", "A t", ""}, {api.ErrNone, "class A extends X { }", "A t", ""}, {api.ErrRing, "class A extends A { }", "A t", ""}, {api.ErrStack, "class A { function t ( ) void locals 0 { pop ; leave ; } }", "A t", ""}, {api.ErrJump, "class A { function t ( ) void locals 0 { nop ; } }", "A t", ""}, {api.ErrType, "class A { function t ( ) void locals 0 { leave ; } method m ( ) int locals 1 { leave ; } }", "A t", ""},
		{api.ErrNone, asked, "X none", ""}, {api.ErrNone, asked, "T X", ""}, {api.ErrNone, asked, "T up", ""}, {api.ErrNone, asked, "T m", ""}, {api.ErrNone, asked, "I m", ""}, {api.ErrNone, asked, "Object none", ""},
		{api.ErrLen, asked, "T none", "0"}, {api.ErrLen, asked, "T two", "-"}, {api.ErrLen, asked, "T two", "- - -"}, {api.ErrLen, asked, "T two", "@0 - | Node @1 1 | Node @2 1 | Node @3 1 | Node - 1"}, {api.ErrLen, asked, "T nodes", "1 - @0 | int[] 1 2 3 4"},
		{api.ErrType, asked, "T two", "0 -"}, {api.ErrType, asked, "T two", "@0 -"}, {api.ErrType, asked, "T two", "@0 - | S"}, {api.ErrType, asked, "T nodes", "2147483648 - -"}, {api.ErrType, asked, "T two", "@0 - | Node - -"}, {api.ErrType, asked, "T two", "@0 - | Node -"}, {api.ErrType, asked, "T nodes", "0 - @0 | int[] -"},
		{api.ErrPlace, asked, "T two", "- - | Node - 1"}, {api.ErrPlace, asked, "T two", "@0 - | Node - 1 | Node - 1"}, {api.ErrPlace, asked, "T none", " | int[]"},
	} {
		p := api.Program{Classes: []api.Class{{Name: ""}}}
		if c.text != "" {
			p = read(t, c.text)
		}
		class, method, _ := strings.Cut(c.name, " ")
		in := inputOf(c.in)
		if e := heap.Check(p, class, method, in, api.MaxObjects, api.MaxLen); e != c.e && c.text != "" || e == api.OK {
			t.Errorf("%+v: heap.Check tells %d", c, e)
		}
		want := heap.Check(p, class, method, in, api.MaxObjects, api.MaxLen)
		if r, e := Begin(p, class, method, in); !isZero(r) || e != want {
			t.Errorf("%+v: %s %d", c, told(r), e)
		}
		for _, n := range []int{-1, 0, 1, 10000, 10001, math.MinInt, math.MaxInt} {
			if r, e := After(p, class, method, in, n); !isZero(r) || e != want {
				t.Errorf("%+v: %s %d", c, told(r), e)
			}
		}
	}
}

// An input of as many objects as there may be, rows as long as they may be.
func TestInputsAtTheirBounds(t *testing.T) {
	p := read(t, asked)
	in := inputOf("1 @0 @2 | Node @1 1 | Node @0 2 | int[] 1 2 3")
	if r, e := Begin(p, "T", "nodes", in); told(r) != "runs 0: 0 | Node @1 1 | Node @0 2 | int[] 1 2 3 ; 0 - - 0 > T.nodes 0 (1 @0 @2 0 0) " || e != api.OK {
		t.Error(told(r), e)
	}
}

// A run that has begun has one frame, one behind a call two, one that ended none; any other run has as many as it lists.
func TestFrames(t *testing.T) {
	p := read(t, "class A { function t ( int ) void locals 1 { load 0 ; func A u ; leave ; } function u ( int ) void locals 1 { const 1 ; load 0 ; div ; pop ; leave ; } }")
	for in, want := range map[string][]int{"5": {1, 1, 2, 2, 2, 2, 2, 1, 0, 0, 0}, "0": {1, 1, 2, 2, 2, 0, 0}} {
		for n, frames := range want {
			r, e := After(p, "A", "t", inputOf(in), n)
			if Frames(r) != frames || e != api.OK {
				t.Error(in, n, told(r), e)
			}
		}
	}
	if n := Frames(api.Run{}); n != 0 {
		t.Error(n)
	}
	for _, how := range []int{api.Runs, api.Returned, api.Thrown, api.Cut, -1, 99} {
		for n := range 20 {
			room := make([]api.Frame, n, 30)
			if got := Frames(api.Run{How: how, Frames: room, Steps: 7}); got != n {
				t.Error(how, n, got)
			}
		}
	}
}

// The longest run that makes the most: each step is done soon, however much there is.
func TestLongRunsThatMakeMuch(t *testing.T) {
	p := read(t, "class A { field a : int ; field b : A ; function t ( ) void locals 1 { new A ; pop ; const 6 ; refs A ; store 0 ; const 6 ; ints ; const 6 ; at ; pop ; goto 0 ; pop ; goto 0 ; catch RangeError 0 10 11 ; } }")
	r, e := After(p, "A", "t", api.Input{}, 10000)
	if r.Steps != 10000 || len(r.Heap) != 4*909+1 || e != api.OK {
		t.Error(r.Steps, len(r.Heap), e)
	}
	if got, want := toldHeap(r.Heap[3632:]), " | A 0 - | A[] - - - - - - | int[] 0 0 0 0 0 0 | RangeError | A 0 -"; got != want {
		t.Error(got)
	}
}
