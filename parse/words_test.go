package parse

import (
	"math"
	"strings"
	"testing"

	"delver/api"
	"delver/lex"
)

// opWords holds the chapter's words of instructions, in its order.
const opWords = "nop const null load store pop dup swap add sub mul div rem neg goto ifeq ifne iflt ifge cmpeq cmpne cmplt cmpge ifnull ifref same other new get put gets puts ints refs len at set is cast call func ret leave throw"

// near answers texts that are nearly a word, and none that is one.
func near(w string) []string {
	return []string{
		w + " ", " " + w, w + ";", w + "_", "_" + w, w + w, w + "\x00", strings.ToUpper(w),
		strings.ToUpper(w[:1]) + w[1:], w[:len(w)-1] + "~", strings.Replace(w, w[:1], "é", 1),
	}
}

func TestKeptWords(t *testing.T) {
	for _, w := range strings.Fields(keptWords) {
		if !Kept(w) {
			t.Errorf("%q is not kept", w)
		}
		for _, s := range near(w) {
			if Kept(s) {
				t.Errorf("%q is kept", s)
			}
		}
	}
}

func TestOtherWordsAreNotKept(t *testing.T) {
	for _, s := range append(strings.Fields(opWords+" A x this bool row program { } ( ) : ; , [ ] 0 -1"), "", " ", "int[]", "class interface") {
		if Kept(s) {
			t.Errorf("%q is kept", s)
		}
	}
}

func TestWordOfEachInstruction(t *testing.T) {
	all := strings.Fields(opWords)
	if len(all) != api.Ops {
		t.Fatal(len(all))
	}
	for op, w := range all {
		if s := Word(op); s != w {
			t.Errorf("Word(%d) = %q, not %q", op, s, w)
		}
		if n, is := Op(w); n != op || !is {
			t.Errorf("Op(%q) = %d, %v, not %d", w, n, is, op)
		}
		if !lex.Name(w) {
			t.Errorf("%q is no name", w)
		}
	}
}

// The numbers are held against package api's names one by one, so that no word slips to a neighbour.
func TestWordByName(t *testing.T) {
	for _, c := range []struct {
		op int
		w  string
	}{
		{api.OpNop, "nop"}, {api.OpConst, "const"}, {api.OpNull, "null"}, {api.OpLoad, "load"}, {api.OpStore, "store"},
		{api.OpPop, "pop"}, {api.OpDup, "dup"}, {api.OpSwap, "swap"}, {api.OpAdd, "add"}, {api.OpSub, "sub"},
		{api.OpMul, "mul"}, {api.OpDiv, "div"}, {api.OpRem, "rem"}, {api.OpNeg, "neg"}, {api.OpGoto, "goto"},
		{api.OpEq, "ifeq"}, {api.OpNe, "ifne"}, {api.OpLt, "iflt"}, {api.OpGe, "ifge"}, {api.OpCmpEq, "cmpeq"},
		{api.OpCmpNe, "cmpne"}, {api.OpCmpLt, "cmplt"}, {api.OpCmpGe, "cmpge"}, {api.OpIfNull, "ifnull"},
		{api.OpIfRef, "ifref"}, {api.OpSame, "same"}, {api.OpOther, "other"}, {api.OpNew, "new"}, {api.OpGet, "get"},
		{api.OpPut, "put"}, {api.OpGets, "gets"}, {api.OpPuts, "puts"}, {api.OpInts, "ints"}, {api.OpRefs, "refs"},
		{api.OpLen, "len"}, {api.OpAt, "at"}, {api.OpSet, "set"}, {api.OpIs, "is"}, {api.OpCast, "cast"},
		{api.OpCall, "call"}, {api.OpFunc, "func"}, {api.OpRet, "ret"}, {api.OpLeave, "leave"}, {api.OpThrow, "throw"},
	} {
		if s := Word(c.op); s != c.w {
			t.Errorf("Word(%d) = %q, not %q", c.op, s, c.w)
		}
	}
}

func TestWordOfNoInstruction(t *testing.T) {
	for _, op := range []int{-1, -2, api.Ops, api.Ops + 1, 1 << 32, -1 << 32, 1<<32 + 1, math.MinInt, math.MaxInt} {
		if s := Word(op); s != "" {
			t.Errorf("Word(%d) = %q", op, s)
		}
	}
}

func TestOpOfNoWord(t *testing.T) {
	none := append(strings.Fields(keptWords+" A jump eq if lt { ; 0 1 -1"), "", " ", "nop const")
	for _, w := range strings.Fields(opWords) {
		none = append(none, near(w)...)
	}
	for _, s := range none {
		if n, is := Op(s); n != 0 || is {
			t.Errorf("Op(%q) = %d, %v", s, n, is)
		}
	}
}
