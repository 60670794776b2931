package flow

import "delver/api"

// frame is a state that an instruction is done to. It keeps the first fault; what is done behind it no longer matters.
type frame struct {
	*world
	locals []api.Type
	stack  []api.Type
	e      api.Errno
}

// need keeps a fault, unless all is well.
func (f *frame) need(well bool, e api.Errno) {
	if !well && f.e == api.OK {
		f.e = e
	}
}

// pop takes the top, whatever it is; what is no type, if there is none.
func (f *frame) pop() api.Type {
	top := len(f.stack) - 1
	f.need(top >= 0, api.ErrStack)
	if f.e != api.OK {
		return api.Type{}
	}
	t := f.stack[top]
	f.stack = f.stack[:top]
	return t
}

// take takes the top, which has to fit.
func (f *frame) take(t api.Type) { f.need(f.fits(f.pop(), t), api.ErrType) }

// takeRow takes the top, which has to be a row.
func (f *frame) takeRow() api.Type {
	t := f.pop()
	f.need(isRow(t), api.ErrType)
	return t
}

// give lays a type on the stack.
func (f *frame) give(t api.Type) {
	f.need(len(f.stack) < api.MaxStack, api.ErrStack)
	f.stack = append(f.stack, t)
}

// do does an instruction of a method that answers ret.
func (f *frame) do(i api.Instr, ret api.Type) {
	switch i.Op {
	case api.OpLoad:
		f.load(i.N)
	case api.OpStore:
		f.store(i.N)
	case api.OpPop:
		f.pop()
	case api.OpDup:
		t := f.pop()
		f.give(t)
		f.give(t)
	case api.OpSwap:
		f.swap()
	case api.OpLen:
		f.takeRow()
		f.give(kind(api.Int))
	case api.OpAt:
		f.take(kind(api.Int))
		f.give(element(f.takeRow()))
	case api.OpSet:
		f.set()
	case api.OpRet:
		f.need(ret.Kind != api.Void, api.ErrType)
		f.take(ret)
	case api.OpLeave:
		f.need(ret.Kind == api.Void, api.ErrType)
	default:
		f.doShape(f.shapeOf(i))
	}
}

// doShape does an instruction that does the same at every place.
func (f *frame) doShape(s shape) {
	f.need(!s.missing, api.ErrNone)
	for _, t := range s.takes {
		f.take(t)
	}
	for _, t := range s.gives {
		f.give(t)
	}
}

func (f *frame) load(n int) {
	f.need(n < len(f.locals), api.ErrArg)
	if f.e == api.OK {
		f.need(f.locals[n].Kind != api.Nothing, api.ErrType)
		f.give(f.locals[n])
	}
}

func (f *frame) store(n int) {
	f.need(n < len(f.locals), api.ErrArg)
	t := f.pop()
	f.need(t.Kind != api.Nothing, api.ErrType)
	if f.e == api.OK {
		f.locals[n] = t
	}
}

func (f *frame) swap() {
	a, b := f.pop(), f.pop()
	f.give(a)
	f.give(b)
}

// set looks at the row ahead of what lies above it: that has to fit the row's elements.
func (f *frame) set() {
	low := len(f.stack) - 3
	f.need(low >= 0, api.ErrStack)
	if f.e == api.OK {
		row := f.stack[low]
		f.need(isRow(row), api.ErrType)
		f.take(element(row))
		f.take(kind(api.Int))
		f.take(row)
	}
}

func isRow(t api.Type) bool { return t.Kind == api.IntRow || t.Kind == api.RefRow }

// element answers the type of a row's elements.
func element(row api.Type) api.Type {
	if row.Kind == api.RefRow {
		return ref(row.Name)
	}
	return kind(api.Int)
}
