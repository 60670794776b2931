package heap

import (
	"delver/api"
	"delver/hier"
	"delver/ints"
)

// headsOf answers the classes of a program that is taken, without their members. Who comes of whom is the same there, and
// hier, which checks what it is given at each question, has no bodies to go through again.
func headsOf(p api.Program) api.Program {
	var heads api.Program
	for _, c := range p.Classes {
		c.Fields, c.Methods = nil, nil
		heads.Classes = append(heads.Classes, c)
	}
	return heads
}

// isValue tells whether v is a value of a type.
func isValue(heads api.Program, h []api.Obj, v api.Val, t api.Type) bool {
	switch t.Kind {
	case api.Int:
		return !v.IsRef && ints.Fits(v.N)
	case api.Ref, api.IntRow, api.RefRow:
		return v == Zero(t) || refers(h, v) && counts(heads, h[v.N].Type, t)
	}
	return false
}

// counts tells whether an object that is of one type counts as one of the other, which is a reference's. A row has a
// Name, too: it counts as a row alone.
func counts(heads api.Program, of, as api.Type) bool {
	switch as.Kind {
	case api.Ref:
		return of.Kind == api.Ref && hier.Under(heads, of.Name, as.Name)
	case api.IntRow:
		return of.Kind == api.IntRow
	}
	return of == as
}

// refers tells whether v is a reference to an object that is there.
func refers(h []api.Obj, v api.Val) bool {
	return v.IsRef && 0 <= v.N && v.N < len(h)
}

// isRow tells whether a type is a row's.
func isRow(t api.Type) bool { return t.Kind == api.IntRow || t.Kind == api.RefRow }

// element answers the type of what stands in a row of that type.
func element(row api.Type) api.Type {
	if row.Kind == api.IntRow {
		return api.Type{Kind: api.Int}
	}
	return api.Type{Kind: api.Ref, Name: row.Name}
}
