package layout

import (
	"slices"

	"delver/api"
)

// check answers the first fault of a program that hier.Check takes. The classes that always stand have no members, and
// so no fault.
func (l tables) check() api.Errno {
	for _, ask := range [...]func(*table) api.Errno{l.memberFault, l.superFault, l.ifaceFault} {
		for _, t := range l {
			if e := ask(t); e != api.OK {
				return e
			}
		}
	}
	return api.OK
}

// memberFault answers the first fault of the members of a class, an interface, by themselves.
func (l tables) memberFault(t *table) api.Errno {
	switch {
	case !formed(t.head):
		return api.ErrForm
	case twice(t.head):
		return api.ErrTwice
	case !l.known(t.head):
		return api.ErrNone
	}
	return api.OK
}

// formed tells whether the members are such as a class, an interface, may have.
func formed(c api.Class) bool {
	if c.Iface && len(c.Fields) > 0 {
		return false
	}
	for _, f := range c.Fields {
		if isVoid(f.Type) {
			return false
		}
	}
	for _, m := range c.Methods {
		if m.Abstract != c.Iface || c.Iface && m.Static || slices.ContainsFunc(m.Params, isVoid) {
			return false
		}
	}
	return true
}

func isVoid(t api.Type) bool { return t.Kind == api.Void }

// twice tells whether two fields, or two methods, have one name.
func twice(c api.Class) bool {
	return repeated(c.Fields, func(f api.Field) string { return f.Name }) ||
		repeated(c.Methods, func(m api.Method) string { return m.Name })
}

// repeated tells whether two of a list have one name.
func repeated[T any](l []T, name func(T) string) bool {
	for i, x := range l {
		if slices.ContainsFunc(l[:i], func(y T) bool { return name(x) == name(y) }) {
			return true
		}
	}
	return false
}

// known tells whether each type that has a name has one of All's.
func (l tables) known(c api.Class) bool {
	for _, t := range typesOf(c) {
		if t.Name == "" {
			continue
		}
		if _, ok := l.find(t.Name); !ok {
			return false
		}
	}
	return true
}

// typesOf answers the types of all members.
func typesOf(c api.Class) []api.Type {
	var l []api.Type
	for _, f := range c.Fields {
		l = append(l, f.Type)
	}
	for _, m := range c.Methods {
		l = append(append(l, m.Params...), m.Ret)
	}
	return l
}

// superFault answers the first fault of a class against its super; an interface has none.
func (l tables) superFault(t *table) api.Errno {
	if t.super == nil {
		return api.OK
	}
	for _, f := range t.head.Fields {
		if !f.Static && t.super.hasSlot(f.Name) {
			return api.ErrTwice
		}
	}
	for _, m := range t.head.Methods {
		if o, ok := t.super.method(m.Name); ok && (o.method.Static != m.Static || !alike(o.method, m)) {
			return api.ErrType
		}
	}
	return api.OK
}

// ifaceFault answers the first fault of a class against the interfaces above it. They are asked in All's order, which
// is not the one in which they are looked through.
func (l tables) ifaceFault(t *table) api.Errno {
	if t.head.Iface {
		return api.OK
	}
	for _, i := range l {
		if !slices.Contains(t.made().above, i) {
			continue
		}
		for _, m := range i.head.Methods {
			if e := t.lack(m); e != api.OK {
				return e
			}
		}
	}
	return api.OK
}

// lack answers what a class lacks of an interface's method.
func (t *table) lack(m api.Method) api.Errno {
	o, ok := t.method(m.Name)
	switch {
	case !ok:
		return api.ErrNone
	case o.method.Static, !alike(o.method, m):
		return api.ErrType
	}
	return api.OK
}

// alike tells whether two methods take and answer the same.
func alike(a, b api.Method) bool {
	return slices.Equal(a.Params, b.Params) && a.Ret == b.Ret
}
