package show

import (
	"delver/api"
	"delver/lex"
	"delver/parse"
)

// maxIfaces is how many interfaces a class may have, or an interface come of.
const maxIfaces = 4

// each tells whether a list has at most so many items, each of them right.
func each[T any](l []T, most int, right func(T) bool) bool {
	if len(l) > most {
		return false
	}
	for _, x := range l {
		if !right(x) {
			return false
		}
	}
	return true
}

// fresh tells whether s is a fresh name.
func fresh(s string) bool { return lex.Name(s) && !parse.Kept(s) }

func within(n, least, most int) bool { return least <= n && n <= most }

func isClass(c api.Class) bool {
	return fresh(c.Name) && isSuper(c) &&
		each(c.Ifaces, maxIfaces, fresh) &&
		each(c.Fields, api.MaxFields, isField) &&
		each(c.Methods, api.MaxMethods, isMethod)
}

// isSuper tells whether what c comes of may be so: an empty name stands for none, and an interface has none.
func isSuper(c api.Class) bool {
	return c.Super == "" || !c.Iface && fresh(c.Super)
}

func isField(f api.Field) bool { return fresh(f.Name) && isType(f.Type) }

func isMethod(m api.Method) bool {
	return fresh(m.Name) && each(m.Params, api.MaxParams, isType) && isType(m.Ret) && isBody(m)
}

// isBody tells whether what a method does may be so: an abstract one does nothing.
func isBody(m api.Method) bool {
	if m.Abstract {
		return m.Locals == 0 && len(m.Code) == 0 && len(m.Catches) == 0
	}
	return within(m.Locals, 0, api.MaxLocals) &&
		each(m.Code, api.MaxCode, isInstr) &&
		each(m.Catches, api.MaxCatches, isCatch)
}

func isType(t api.Type) bool {
	switch t.Kind {
	case api.Void, api.Int, api.IntRow:
		return t.Name == ""
	case api.Ref, api.RefRow:
		return fresh(t.Name)
	}
	return false
}

func isInstr(i api.Instr) bool {
	a := argsOf(i.Op)
	return parse.Word(i.Op) != "" && within(i.N, a.least, a.most) &&
		isArgument(i.A, a.names >= 1) && isArgument(i.B, a.names >= 2)
}

// isArgument tells whether s is a name where the word has one, and empty where it has none.
func isArgument(s string, has bool) bool {
	if !has {
		return s == ""
	}
	return fresh(s)
}

func isCatch(c api.Catch) bool {
	return fresh(c.Name) && within(c.From, 0, api.MaxCode) &&
		within(c.To, 0, api.MaxCode) && within(c.At, 0, api.MaxCode)
}
