package flow

import (
	"slices"

	"delver/api"
	"delver/hier"
	"delver/lattice"
	"delver/layout"
)

// Names of classes that always stand.
const (
	object = "Object"
	thrown = "Error"
)

// pair is two types, the one that is there first.
type pair [2]api.Type

// fitting is whether one type fits another one.
type fitting struct{ is bool }

// world is what a program that layout.Check takes says of its names and types. The layers below check the program that
// they are given at each question: so they are given no more than the question needs, and what is asked at many places is
// asked once in a call.
type world struct {
	bare  api.Program // without bodies
	heads api.Program // without members
	fit   map[pair]fitting
	met   map[pair]api.Type
	does  map[api.Instr]shape
}

// look answers the world of a program, or layout.Check's error.
func look(p api.Program) (*world, api.Errno) {
	if e := layout.Check(p); e != api.OK {
		return nil, e
	}
	w := world{fit: map[pair]fitting{}, met: map[pair]api.Type{}, does: map[api.Instr]shape{}}
	for _, c := range p.Classes {
		c.Methods = bodiless(c.Methods)
		w.bare.Classes = append(w.bare.Classes, c)
		c.Fields, c.Methods = nil, nil
		w.heads.Classes = append(w.heads.Classes, c)
	}
	return &w, api.OK
}

// bodiless answers methods that name nothing but their types.
func bodiless(l []api.Method) []api.Method {
	l = slices.Clone(l)
	for i := range l {
		l[i].Code, l[i].Catches = nil, nil
	}
	return l
}

// remembered answers what was found for a key, and finds it the first time.
func remembered[K comparable, V any](m map[K]V, key K, find func(K) V) V {
	v, ok := m[key]
	if !ok {
		v = find(key)
		m[key] = v
	}
	return v
}

// fits tells whether one type fits another one.
func (w *world) fits(from, to api.Type) bool {
	return remembered(w.fit, pair{from, to}, func(l pair) fitting {
		return fitting{lattice.Fits(w.heads, l[0], l[1])}
	}).is
}

// meet answers what two types that are right meet in.
func (w *world) meet(a, b api.Type) api.Type {
	return remembered(w.met, pair{a, b}, func(l pair) api.Type {
		t, _ := lattice.Meet(w.heads, l[0], l[1])
		return t
	})
}

// has tells whether one of All has that name.
func (w *world) has(name string) bool {
	_, ok := hier.Find(w.heads, name)
	return ok
}

// isClass tells whether one of All has that name, and is no interface.
func (w *world) isClass(name string) bool {
	c, ok := hier.Find(w.heads, name)
	return ok && !c.Iface
}

// isThrown tells whether one of All that has that name is under Error.
func (w *world) isThrown(name string) bool { return hier.Under(w.heads, name, thrown) }

// slot answers the type of a slot of a class.
func (w *world) slot(class, name string) (api.Type, bool) {
	l, _ := layout.Slots(w.bare, class)
	for _, s := range l {
		if s.Name == name {
			return s.Type, true
		}
	}
	return api.Type{}, false
}

// static answers the type of a static field that a class has itself.
func (w *world) static(class, name string) (api.Type, bool) {
	l, _ := layout.Statics(w.bare)
	for _, s := range l {
		if s.Owner == class && s.Name == name {
			return s.Type, true
		}
	}
	return api.Type{}, false
}

// call answers the signature of a method that is called of an object.
func (w *world) call(class, name string) (api.Method, bool) {
	return layout.Call(w.bare, class, name)
}

// function answers the static method of a class by a name.
func (w *world) function(class, name string) (api.Method, bool) {
	_, m, ok := layout.Method(w.bare, class, name)
	return m, ok && m.Static
}
