package lattice

import (
	"delver/api"
	"delver/hier"
	"delver/layout"
)

// object is the name of the class that all come of.
const object = "Object"

// look answers the heads of a program in which each of the types is right; false, if one is not, as none is in a program
// that layout.Check refuses.
func look(p api.Program, types ...api.Type) (api.Program, bool) {
	if layout.Check(p) != api.OK {
		return api.Program{}, false
	}
	heads := headsOf(p)
	for _, t := range types {
		if !isRight(heads, t) {
			return api.Program{}, false
		}
	}
	return heads, true
}

// headsOf answers the classes of a program that is taken, without their members. Who comes of whom is the same there, and
// hier, which checks what it is given at each question, has no bodies to go through again.
func headsOf(p api.Program) api.Program {
	var heads api.Program
	for _, c := range p.Classes {
		c.Fields, c.Methods = nil, nil
		heads.Classes = append(heads.Classes, c)
	}
	return heads
}

// isRight tells whether a type is right.
func isRight(heads api.Program, t api.Type) bool {
	switch t.Kind {
	case api.Int, api.IntRow, api.Null, api.Nothing:
		return t.Name == ""
	case api.Ref, api.RefRow:
		_, is := hier.Find(heads, t.Name)
		return is
	}
	return false
}

// isReference tells whether a type that is right is a reference.
func isReference(t api.Type) bool {
	return t.Kind != api.Int && t.Kind != api.Nothing
}

func ref(name string) api.Type { return api.Type{Kind: api.Ref, Name: name} }

// fits tells of types that are right whether one fits the other. Rows and ints need no rule of their own: each of them
// fits itself, and beside that what every reference fits, or everything.
func fits(heads api.Program, from, to api.Type) bool {
	switch {
	case from == to, to.Kind == api.Nothing:
		return true
	case from.Kind == api.Null, to == ref(object):
		return isReference(from) && isReference(to)
	}
	return from.Kind == api.Ref && to.Kind == api.Ref && hier.Under(heads, from.Name, to.Name)
}

// meet answers what two types that are right meet in.
func meet(heads api.Program, a, b api.Type) api.Type {
	switch {
	case a == b:
		return a
	case !isReference(a), !isReference(b):
		return api.Type{Kind: api.Nothing}
	case a.Kind == api.Null:
		return b
	case b.Kind == api.Null:
		return a
	case a.Kind == api.Ref && b.Kind == api.Ref:
		return ref(meetByName(heads, a.Name, b.Name))
	}
	return ref(object)
}

// meetByName answers the name of what two of All meet in. An interface that is above both, but is neither, is not looked
// for: there may be several of them, none under another one.
func meetByName(heads api.Program, a, b string) string {
	if hier.Under(heads, a, b) {
		return b
	}
	for !hier.Under(heads, b, a) {
		super, has := hier.Super(heads, a)
		if !has {
			return object
		}
		a = super
	}
	return a
}
