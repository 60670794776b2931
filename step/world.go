package step

import (
	"slices"

	"delver/api"
	"delver/heap"
	"delver/hier"
	"delver/layout"
)

// names is what a question is asked of: a class, and what is looked for there.
type names struct {
	class, name string
}

// owned is a method, and whose it is.
type owned struct {
	owner  string
	method api.Method
}

// standing is whether one stands above another one.
type standing struct{ above bool }

// world is what a sound program says of its names. The layers below check the program at each question, and a run asks
// the same ones again and again: so each is asked once in a call.
type world struct {
	p       api.Program
	statics []api.Slot
	fresh   map[string]api.Obj
	slots   map[names]int
	methods map[names]owned
	params  map[names]int
	under   map[names]standing
}

func worldOf(p api.Program) world {
	statics, _ := layout.Statics(p)
	return world{p, statics, map[string]api.Obj{}, map[names]int{}, map[names]owned{}, map[names]int{}, map[names]standing{}}
}

// remembered answers what was found for a key, and finds it the first time.
func remembered[K comparable, V any](m map[K]V, key K, find func(K) V) V {
	v, ok := m[key]
	if !ok {
		v = find(key)
		m[key] = v
	}
	return v
}

// newObject answers an object of a class with slots of noughts.
func (w *world) newObject(class string) api.Obj {
	o := remembered(w.fresh, class, func(class string) api.Obj {
		h, at, _ := heap.New(w.p, nil, class)
		return h[at]
	})
	o.Slots = slices.Clone(o.Slots)
	return o
}

// slot answers the place of a slot in the objects of a class, and of each one under it.
func (w *world) slot(class, name string) int {
	return remembered(w.slots, names{class, name}, func(k names) int {
		l, _ := layout.Slots(w.p, k.class)
		return slices.IndexFunc(l, func(s api.Slot) bool { return s.Name == k.name })
	})
}

// static answers the place of a class' own static field.
func (w *world) static(class, name string) int {
	return slices.IndexFunc(w.statics, func(s api.Slot) bool { return s.Owner == class && s.Name == name })
}

// method answers the method of a class by a name.
func (w *world) method(class, name string) owned {
	return remembered(w.methods, names{class, name}, func(k names) owned {
		owner, m, _ := layout.Method(w.p, k.class, k.name)
		return owned{owner, m}
	})
}

// paramsOf answers how many parameters a call by a class or an interface has.
func (w *world) paramsOf(class, name string) int {
	return remembered(w.params, names{class, name}, func(k names) int {
		m, _ := layout.Call(w.p, k.class, k.name)
		return len(m.Params)
	})
}

// isUnder tells whether one of All is above a class.
func (w *world) isUnder(class, above string) bool {
	return remembered(w.under, names{class, above}, func(k names) standing {
		return standing{hier.Under(w.p, k.class, k.name)}
	}).above
}
