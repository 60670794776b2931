package step

import (
	"delver/api"
	"delver/heap"
)

// doObject does an instruction of objects and statics, and answers the class of what it throws.
func (m *machine) doObject(f *frame, i api.Instr) (fault string) {
	switch i.Op {
	case api.OpNew:
		f.give(m.add(m.newObject(i.A)))
	case api.OpGets:
		f.give(m.statics[m.static(i.A, i.B)])
	case api.OpPuts:
		m.statics[m.static(i.A, i.B)] = f.take()
	case api.OpGet:
		return f.read(m.takeSlot(f, i))
	case api.OpPut:
		v := f.take()
		slot, fault := m.takeSlot(f, i)
		return write(slot, fault, v)
	case api.OpIs:
		f.give(api.Val{N: one(m.isOf(f.take(), i.A))})
	case api.OpCast:
		v := f.take()
		if v != null() && !m.isOf(v, i.A) {
			return castError
		}
		f.give(v)
	}
	return ""
}

// doRow does an instruction of rows, and answers the class of what it throws.
func (m *machine) doRow(f *frame, i api.Instr) (fault string) {
	switch i.Op {
	case api.OpInts:
		return m.newRow(f, api.Type{Kind: api.IntRow})
	case api.OpRefs:
		return m.newRow(f, api.Type{Kind: api.RefRow, Name: i.A})
	case api.OpLen:
		v := f.take()
		if v == null() {
			return nullError
		}
		f.give(api.Val{N: len(m.heap[v.N].Slots)})
	case api.OpAt:
		return f.read(m.takeElement(f))
	case api.OpSet:
		v := f.take()
		slot, fault := m.takeElement(f)
		return write(slot, fault, v)
	}
	return ""
}

// newRow takes a length, and gives a new row.
func (m *machine) newRow(f *frame, t api.Type) (fault string) {
	h, at, e := heap.Row(nil, t, f.take().N)
	if e != api.OK {
		return sizeError
	}
	f.give(m.add(h[at]))
	return ""
}

// takeSlot takes an object, and answers the slot of it that an instruction names, or the class of what is thrown.
func (m *machine) takeSlot(f *frame, i api.Instr) (slot *api.Val, fault string) {
	v := f.take()
	if v == null() {
		return nil, nullError
	}
	return &m.heap[v.N].Slots[m.slot(i.A, i.B)], ""
}

// takeElement takes a place and a row, and answers the slot there, or the class of what is thrown.
func (m *machine) takeElement(f *frame) (slot *api.Val, fault string) {
	row, place := f.takeTwo()
	if row == null() {
		return nil, nullError
	}
	slots := m.heap[row.N].Slots
	if place.N < 0 || place.N >= len(slots) {
		return nil, rangeError
	}
	return &slots[place.N], ""
}

// read gives what stands in a slot, if that was found.
func (f *frame) read(slot *api.Val, fault string) string {
	if fault == "" {
		f.give(*slot)
	}
	return fault
}

// write puts a value into a slot, if that was found.
func write(slot *api.Val, fault string, v api.Val) string {
	if fault == "" {
		*slot = v
	}
	return fault
}

// isOf tells whether a reference is one to an object of a class under that of the name. A row counts as an Object alone.
func (m *machine) isOf(v api.Val, name string) bool {
	if v == null() {
		return false
	}
	t := m.heap[v.N].Type
	return name == object || t.Kind == api.Ref && m.isUnder(t.Name, name)
}

func one(is bool) int {
	if is {
		return 1
	}
	return 0
}
