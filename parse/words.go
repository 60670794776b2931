package parse

import "delver/api"

// kept holds the words that no program may use as names.
var kept = [...]string{
	"class", "interface", "extends", "implements", "field", "static",
	"method", "function", "locals", "catch", "int", "void",
}

// words holds each instruction's word, by its number.
var words = [api.Ops]string{
	"nop", "const", "null", "load", "store", "pop", "dup", "swap",
	"add", "sub", "mul", "div", "rem", "neg",
	"goto", "ifeq", "ifne", "iflt", "ifge", "cmpeq", "cmpne", "cmplt", "cmpge",
	"ifnull", "ifref", "same", "other",
	"new", "get", "put", "gets", "puts", "ints", "refs", "len", "at", "set",
	"is", "cast", "call", "func", "ret", "leave", "throw",
}

// Kept tells whether s is a word that is kept.
func Kept(s string) bool {
	for _, word := range kept {
		if word == s {
			return true
		}
	}
	return false
}

// Word answers the word of an instruction; none, if there is no such instruction.
func Word(op int) string {
	if op < 0 || op >= api.Ops {
		return ""
	}
	return words[op]
}

// Op answers which instruction's word s is.
func Op(s string) (int, bool) {
	for op, word := range words {
		if word == s {
			return op, true
		}
	}
	return 0, false
}
