package step

import "delver/api"

// call calls a method of an object.
func (m *machine) call(f *frame, i api.Instr) {
	given := f.takeAll(1 + m.paramsOf(i.A, i.B))
	if given[0] == null() {
		m.throwNew(nullError)
		return
	}
	m.enter(m.heap[given[0].N].Type.Name, i.B, given)
}

// function calls a static method.
func (m *machine) function(f *frame, i api.Instr) {
	m.enter(i.A, i.B, f.takeAll(len(m.method(i.A, i.B).method.Params)))
}

// enter puts a frame of a class' method behind the others.
func (m *machine) enter(class, name string, given []api.Val) {
	if len(m.frames) == api.MaxFrames {
		m.throwNew(depthError)
		return
	}
	m.frames = append(m.frames, frameOf(m.method(class, name), given))
}

// back lets the last frame go, and goes on behind the call that it came of; is there none, the run has returned.
func (m *machine) back(v api.Val, gives bool) {
	m.drop()
	if len(m.frames) == 0 {
		m.how, m.value = api.Returned, v
		return
	}
	f := m.last()
	f.pc++
	if gives {
		f.give(v)
	}
}

// throw throws what a throw took.
func (m *machine) throw(v api.Val) {
	if v == null() {
		m.throwNew(nullError)
		return
	}
	m.raise(v)
}

// throwNew throws a new object of a class.
func (m *machine) throwNew(class string) { m.raise(m.add(m.newObject(class))) }

// raise goes on in the last frame that catches an object; is there none, the run has thrown it. A frame below stands at
// the place of its call.
func (m *machine) raise(v api.Val) {
	for len(m.frames) > 0 {
		f := m.last()
		if at, ok := m.caught(f, m.heap[v.N].Type.Name); ok {
			f.pc, f.stack = at, []api.Val{v}
			return
		}
		m.drop()
	}
	m.how, m.value = api.Thrown, v
}

// caught answers where a frame goes on with an object of a class; false, if it does not.
func (m *machine) caught(f *frame, class string) (at int, ok bool) {
	for _, c := range f.method.Catches {
		if c.From <= f.pc && f.pc < c.To && m.isUnder(class, c.Name) {
			return c.At, true
		}
	}
	return 0, false
}
