package heap

import (
	"slices"

	"delver/api"
	"delver/hier"
	"delver/layout"
)

// function answers the static method of that name that a class of p's own has itself.
func function(p api.Program, class, method string) (api.Method, bool) {
	for _, c := range p.Classes {
		for _, m := range c.Methods {
			if c.Name == class && m.Name == method && m.Static {
				return m, true
			}
		}
	}
	return api.Method{}, false
}

// hasLonger tells whether a row is longer than that. How many slots an object of a class may have, its class tells.
func hasLonger(h []api.Obj, long int) bool {
	return slices.ContainsFunc(h, func(o api.Obj) bool { return isRow(o.Type) && len(o.Slots) > long })
}

// isTyped tells whether each argument is a value of its parameter's type, and each object one of an input.
func isTyped(p api.Program, params []api.Type, in api.Input) bool {
	heads := headsOf(p)
	if !areValues(heads, in.Heap, in.Args, params) {
		return false
	}
	for _, o := range in.Heap {
		types, ok := slotTypes(p, heads, o)
		if !ok || !areValues(heads, in.Heap, o.Slots, types) {
			return false
		}
	}
	return true
}

// areValues tells whether there are as many values as types, each of its type.
func areValues(heads api.Program, h []api.Obj, l []api.Val, types []api.Type) bool {
	if len(l) != len(types) {
		return false
	}
	for i, v := range l {
		if !isValue(heads, h, v, types[i]) {
			return false
		}
	}
	return true
}

// slotTypes answers the types of the slots that an object has to have; false, if none of an input is of its type.
func slotTypes(p, heads api.Program, o api.Obj) ([]api.Type, bool) {
	switch {
	case o.Type.Kind == api.Ref && hasOwn(heads, o.Type.Name):
		slots, e := layout.Slots(p, o.Type.Name)
		return typesOf(slots), e == api.OK
	case o.Type == api.Type{Kind: api.IntRow}, o.Type.Kind == api.RefRow && has(heads, o.Type.Name):
		return slices.Repeat([]api.Type{element(o.Type)}, len(o.Slots)), true
	}
	return nil, false
}

func typesOf(slots []api.Slot) []api.Type {
	var l []api.Type
	for _, s := range slots {
		l = append(l, s.Type)
	}
	return l
}

// hasOwn tells whether one of a program's own has that name.
func hasOwn(heads api.Program, name string) bool {
	return slices.ContainsFunc(heads.Classes, func(c api.Class) bool { return c.Name == name })
}

// has tells whether one of All has that name.
func has(heads api.Program, name string) bool {
	_, ok := hier.Find(heads, name)
	return ok
}
