package layout

import (
	"slices"
	"sync"

	"delver/api"
	"delver/hier"
)

// owned is a method, and whose it is.
type owned struct {
	owner  string
	method api.Method
}

// table is what is known of one of All: whom it comes of in one step, and lists that are made when they are first asked
// for.
type table struct {
	head   api.Class
	super  *table // nil: none is named
	ifaces []*table

	once    sync.Once
	slots   []api.Slot
	methods []owned  // its own, then its super's: of one name the first counts
	above   []*table // the interfaces above it, in the order in which a signature is looked for in them
}

// tables is a program's, in All's order.
type tables []*table

// tablesOf answers the tables of a program that Check takes, or Check's error. They are made of hier.All's copy in each
// call: what lies in them may be handed out.
func tablesOf(p api.Program) (tables, api.Errno) {
	if e := hier.Check(p); e != api.OK {
		return nil, e
	}
	l := bind(hier.All(p))
	if e := l.check(); e != api.OK {
		return nil, e
	}
	return l, api.OK
}

// bind answers the tables of classes that hier.Check takes, each tied to those that it names. That a class without a super
// is of Object need not be told: Object has no members.
func bind(all []api.Class) tables {
	var l tables
	for _, c := range all {
		l = append(l, &table{head: c})
	}
	for _, t := range l {
		t.super, _ = l.find(t.head.Super)
		for _, name := range t.head.Ifaces {
			i, _ := l.find(name)
			t.ifaces = append(t.ifaces, i)
		}
	}
	return l
}

// find answers the table of the class, the interface, of that name.
func (l tables) find(name string) (*table, bool) {
	for _, t := range l {
		if t.head.Name == name {
			return t, true
		}
	}
	return nil, false
}

// class answers the table of the class of that name.
func (l tables) class(name string) (*table, bool) {
	t, ok := l.find(name)
	if !ok || t.head.Iface {
		return nil, false
	}
	return t, true
}

// made answers the table with its lists. These lean on the lists of those that it comes of, which may stand behind it
// in the program, and of which others may come too: whoever asks first has them made, and that once.
func (t *table) made() *table {
	t.once.Do(t.fill)
	return t
}

// fill makes the lists. What it takes from other tables it copies: two that come of one may not share its spare room.
func (t *table) fill() {
	t.slots = ownSlots(t.head, false)
	for _, m := range t.head.Methods {
		t.methods = append(t.methods, owned{t.head.Name, m})
	}
	if t.head.Iface {
		t.above = []*table{t}
	}
	for _, i := range t.ifaces {
		t.lookAlso(i.made().above)
	}
	if t.super != nil {
		t.inherit(t.super.made())
	}
}

// inherit puts the super's slots ahead of its own, and what is found in the super behind what is found in itself.
func (t *table) inherit(super *table) {
	t.slots = slices.Concat(super.slots, t.slots)
	t.methods = append(t.methods, super.methods...)
	t.lookAlso(super.above)
}

// lookAlso adds the interfaces that are not there yet: one that was looked through has nothing new.
func (t *table) lookAlso(more []*table) {
	for _, i := range more {
		if !slices.Contains(t.above, i) {
			t.above = append(t.above, i)
		}
	}
}

// method answers the method by that name, of an interface its own one.
func (t *table) method(name string) (owned, bool) {
	return find(t.made().methods, name)
}

// find answers the first method of that name.
func find(l []owned, name string) (owned, bool) {
	for _, m := range l {
		if m.method.Name == name {
			return m, true
		}
	}
	return owned{}, false
}

// signature answers a call's signature.
func (t *table) signature(name string) (api.Method, bool) {
	if m, ok := t.method(name); ok {
		return m.method, true
	}
	for _, i := range t.made().above {
		if m, ok := i.method(name); ok {
			return m.method, true
		}
	}
	return api.Method{}, false
}

// hasSlot tells whether one of the slots has that name.
func (t *table) hasSlot(name string) bool {
	return slices.ContainsFunc(t.made().slots, func(s api.Slot) bool { return s.Name == name })
}

// ownSlots answers the fields of a class itself, the static ones or the others.
func ownSlots(c api.Class, static bool) []api.Slot {
	var l []api.Slot
	for _, f := range c.Fields {
		if f.Static == static {
			l = append(l, api.Slot{Owner: c.Name, Name: f.Name, Type: f.Type})
		}
	}
	return l
}
