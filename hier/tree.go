package hier

import (
	"delver/api"
	"delver/show"
)

// object is the name of the class that all come of, and top its place among all.
const (
	object = "Object"
	top    = 0
)

// standing answers the classes that always stand.
func standing() []api.Class {
	l := []api.Class{{Name: object}, {Name: "Error", Super: object}}
	for _, name := range [...]string{"NullError", "RangeError", "CastError", "NumError", "SizeError", "DepthError"} {
		l = append(l, api.Class{Name: name, Super: "Error"})
	}
	return l
}

// tree is a program's classes in All's order, their lists still the program's own; up holds the places of those that
// each comes of in one step.
type tree struct {
	all []api.Class
	up  [][]int
}

// grow answers the tree of a program that Check takes, or Check's error.
func grow(p api.Program) (tree, api.Errno) {
	if e := show.Check(p); e != api.OK {
		return tree{}, e
	}
	t := tree{all: append(standing(), p.Classes...)}
	if twice(t.all) {
		return tree{}, api.ErrTwice
	}
	for _, c := range t.all {
		up, ok := ups(t.all, c)
		if !ok {
			return tree{}, api.ErrNone
		}
		t.up = append(t.up, up)
	}
	if t.ring() {
		return tree{}, api.ErrRing
	}
	return t, api.OK
}

// look answers the tree of a program that Check takes, and the place of a name in it.
func look(p api.Program, name string) (t tree, at int, ok bool) {
	t, e := grow(p)
	if e != api.OK {
		return tree{}, 0, false
	}
	at, ok = place(t.all, name)
	return t, at, ok
}

// place answers where the first class of that name stands.
func place(all []api.Class, name string) (int, bool) {
	for at, c := range all {
		if c.Name == name {
			return at, true
		}
	}
	return 0, false
}

// twice tells whether two have one name.
func twice(all []api.Class) bool {
	for at, c := range all {
		if first, _ := place(all, c.Name); first != at {
			return true
		}
	}
	return false
}

// superOf answers the name of a class' super; false, if it has none. No two may have one name, so that Object is told
// by its own.
func superOf(c api.Class) (string, bool) {
	switch {
	case c.Iface, c.Name == object:
		return "", false
	case c.Super == "":
		return object, true
	}
	return c.Super, true
}

// ups answers the places of c's super, which must be a class, and of its Ifaces, which must be interfaces; false, if
// one is not so.
func ups(all []api.Class, c api.Class) ([]int, bool) {
	var l []int
	if name, has := superOf(c); has {
		at, ok := place(all, name)
		if !ok || all[at].Iface {
			return nil, false
		}
		l = append(l, at)
	}
	for _, name := range c.Ifaces {
		at, ok := place(all, name)
		if !ok || !all[at].Iface {
			return nil, false
		}
		l = append(l, at)
	}
	return l, true
}

// ring tells whether one comes of itself.
func (t tree) ring() bool {
	for at := range t.all {
		if t.beyond(at)[at] {
			return true
		}
	}
	return false
}

// under tells whether the one at high is above the one at low. Object is above an interface too, which no step up
// tells.
func (t tree) under(low, high int) bool {
	return low == high || high == top || t.beyond(low)[high]
}

// beyond tells of each class whether it is met by one step up or more from the one at a place. None is gone on from
// twice, so that it ends in a ring too, and soon where many ways lead up.
func (t tree) beyond(at int) []bool {
	met := make([]bool, len(t.all))
	rest := []int{at}
	for len(rest) > 0 {
		from := rest[len(rest)-1]
		rest = rest[:len(rest)-1]
		for _, to := range t.up[from] {
			if !met[to] {
				met[to] = true
				rest = append(rest, to)
			}
		}
	}
	return met
}
