package flow

import (
	"fmt"
	"slices"
	"strings"
	"testing"

	"delver/api"
	"delver/parse"
)

// Each text is a program, what Check answers stands ahead of it; nothing, if it is sound.
func TestCheck(t *testing.T) {
	good := "function %s ( ) void locals 0 { leave ; } "
	bad := "function %s ( ) void locals 0 { nop ; pop ; } "
	worse := "method %s ( ) int locals 1 { leave ; } "
	f := func(pattern, name string) string { return strings.ReplaceAll(pattern, "%s", name) }
	for _, c := range [][2]string{
		{"", ""}, {"", "class A { }"}, {"", "interface I { method f ( ) int ; }"}, {"", others},
		{"", "class A { " + f(good, "a") + f(good, "b") + "} class B { " + f(good, "a") + "}"},
		{"a of A: stack at 1", "class A { " + f(bad, "a") + f(good, "b") + "}"}, {"b of A: stack at 1", "class A { " + f(good, "a") + f(bad, "b") + "}"},
		// classes in order, methods in order, whatever their names are
		{"b of A: stack at 1", "class A { " + f(good, "c") + f(bad, "b") + f(worse, "a") + "}"}, {"a of A: type at 0", "class A { " + f(good, "c") + f(worse, "a") + f(bad, "b") + "}"},
		{"c of B: stack at 1", "class C { " + f(good, "a") + "} class B { " + f(bad, "c") + "} class A { " + f(worse, "a") + "}"},
		{"x of A: stack at 1", "class A extends B { " + f(bad, "x") + "} class B { " + f(worse, "a") + "}"},
		// what is abstract, or a super's, is not asked
		{"a of C: type at 0", "interface I { method f ( ) int ; method g ( ) void ; } class C { field x : int ; " + f(worse, "a") + "}"},
		{"a of A: type at 0", "class B extends A { " + f(good, "b") + "} class A { " + f(worse, "a") + "}"},
		{"a of B: type at 0", "class B extends A { " + f(worse, "a") + "} class A { method a ( ) int locals 2 { pop ; } }"},
		// where nothing is gone through
		{"a of A: length at 0", "class A { " + f(good, "c") + "function a ( ) void locals 0 { } }"}, {"a of A: length at 0", "class A { method a ( ) void locals 0 { leave ; } }"},
		{"a of A: type at 0", "class A { " + f(good, "c") + "function a ( ) void locals 0 { pop ; leave ; catch A 0 1 1 ; } }"},
		{"a of A: stack at 2", "class A { " + f(good, "c") + "function a ( ) void locals 0 { nop ; nop ; pop ; } " + f(bad, "d") + "}"},
		{"a of A: jump at 1", "class A { " + f(good, "c") + "function a ( ) void locals 0 { nop ; goto 9 ; } " + f(bad, "d") + "}"},
	} {
		p := read(t, c[1])
		if got := checked(p); got != c[0] {
			t.Errorf("%s: %q, not %q", c[1], got, c[0])
		}
		checkAsPlain(t, p)
	}
}

func TestNext(t *testing.T) {
	wants := map[string]string{"goto": "[7]", "ret": "[]", "leave": "[]", "throw": "[]"}
	for _, word := range strings.Fields("ifeq ifne iflt ifge cmpeq cmpne cmplt cmpge ifnull ifref same other") {
		wants[word] = "[7 3]"
	}
	for op := range api.Ops {
		i := api.Instr{Op: op, N: 7, A: "A", B: "b"}
		m := api.Method{Code: []api.Instr{{Op: api.OpGoto}, {Op: api.OpRet}, i, {Op: api.OpLeave}}}
		want := wants[parse.Word(op)]
		if want == "" {
			want = "[3]"
		}
		if got := fmt.Sprint(Next(m, 2)); got != want {
			t.Error(parse.Word(op), got)
		}
	}
}

func TestNextOfPlacesThatAreNone(t *testing.T) {
	m := api.Method{Code: []api.Instr{{Op: api.OpNop}, {Op: api.OpGoto, N: 5}, {Op: api.OpConst}}}
	for at, want := range map[int]string{0: "[1]", 1: "[5]", 2: "[3]", 3: "[]", -1: "[]", 4: "[]", 1 << 62: "[]", -1 << 63: "[]"} {
		if got := fmt.Sprint(Next(m, at)); got != want {
			t.Error(at, got)
		}
	}
	for _, at := range []int{-1, 0, 1} {
		if l := Next(api.Method{Name: "a", Abstract: true}, at); len(l) != 0 {
			t.Error(at, l)
		}
	}
	// nothing behind the code's length is read
	m.Code = m.Code[:1]
	if l := Next(m, 1); len(l) != 0 || fmt.Sprint(Next(m, 0)) != "[1]" {
		t.Error(l)
	}
}

// Nobody has looked at the method, its numbers may be any.
func TestNextOfJumpsToNoPlaces(t *testing.T) {
	for _, n := range []int{0, 1, 2, 47, 48, 1 << 40, 1<<63 - 1, -1, -1 << 63} {
		m := api.Method{Code: []api.Instr{{Op: api.OpNop}, {Op: api.OpEq, N: n}, {Op: api.OpGoto, N: n}, {Op: api.OpOther, N: n}}}
		for at, want := range [][]int{{1}, {n, 2}, {n}, {n, 4}} {
			if l := Next(m, at); !slices.Equal(l, want) {
				t.Error(n, at, l)
			}
		}
	}
	for _, op := range []int{-1, api.Ops, 1 << 40, -1 << 63} {
		m := api.Method{Code: []api.Instr{{Op: op, N: 5}}}
		if l := Next(m, 0); !slices.Equal(l, []int{1}) {
			t.Error(op, l)
		}
	}
}
