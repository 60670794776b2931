package step

import (
	"slices"

	"delver/api"
	"delver/heap"
)

// Names of classes that always stand: the one that is above all, and those of what an instruction throws.
const (
	object     = "Object"
	nullError  = "NullError"
	rangeError = "RangeError"
	castError  = "CastError"
	numError   = "NumError"
	sizeError  = "SizeError"
	depthError = "DepthError"
)

// machine is a run that goes on. Its program is sound, so that no instruction asks for what is not there.
type machine struct {
	world
	heap    []api.Obj
	statics []api.Val
	frames  []*frame
	how     int
	value   api.Val
	steps   int
}

// begin answers the run of a method that heap.Check takes with its input.
func begin(p api.Program, class, method string, in api.Input) *machine {
	m := machine{world: worldOf(p)}
	for _, o := range in.Heap {
		o.Slots = slices.Clone(o.Slots)
		m.heap = append(m.heap, o)
	}
	for _, s := range m.world.statics {
		m.statics = append(m.statics, heap.Zero(s.Type))
	}
	m.enter(class, method, slices.Clone(in.Args))
	return &m
}

// run answers the run as it stands. What lies behind a stack's end is left here.
func (m *machine) run() api.Run {
	r := api.Run{Heap: m.heap, Statics: m.statics, How: m.how, Value: m.value, Steps: m.steps}
	for _, f := range m.frames {
		r.Frames = append(r.Frames, api.Frame{
			Class: f.owner, Method: f.method.Name, Pc: f.pc, Locals: f.locals, Stack: slices.Clone(f.stack),
		})
	}
	return r
}

// last answers the frame whose instruction is next.
func (m *machine) last() *frame { return m.frames[len(m.frames)-1] }

// drop lets the last frame go.
func (m *machine) drop() { m.frames = m.frames[:len(m.frames)-1] }

// add puts an object at the heap's end, and answers a reference to it.
func (m *machine) add(o api.Obj) api.Val {
	m.heap = append(m.heap, o)
	return api.Val{IsRef: true, N: len(m.heap) - 1}
}

// do does the next instruction.
func (m *machine) do() {
	m.steps++
	f := m.last()
	switch i := f.next(); i.Op {
	case api.OpGoto, api.OpEq, api.OpNe, api.OpLt, api.OpGe, api.OpCmpEq, api.OpCmpNe, api.OpCmpLt, api.OpCmpGe,
		api.OpIfNull, api.OpIfRef, api.OpSame, api.OpOther:
		f.jump(i)
	case api.OpCall:
		m.call(f, i)
	case api.OpFunc:
		m.function(f, i)
	case api.OpRet:
		m.back(f.take(), true)
	case api.OpLeave:
		m.back(api.Val{}, false)
	case api.OpThrow:
		m.throw(f.take())
	default:
		m.stay(f, i)
	}
}

// stay does an instruction that goes on behind itself, unless it throws.
func (m *machine) stay(f *frame, i api.Instr) {
	if fault := m.faultOf(f, i); fault != "" {
		m.throwNew(fault)
		return
	}
	f.pc++
}

// faultOf does an instruction, and answers the class of what it throws; no name, if it throws nothing.
func (m *machine) faultOf(f *frame, i api.Instr) string {
	switch i.Op {
	case api.OpAdd, api.OpSub, api.OpMul, api.OpDiv, api.OpRem, api.OpNeg:
		return f.reckon(i.Op)
	case api.OpNew, api.OpGets, api.OpPuts, api.OpGet, api.OpPut, api.OpIs, api.OpCast:
		return m.doObject(f, i)
	case api.OpInts, api.OpRefs, api.OpLen, api.OpAt, api.OpSet:
		return m.doRow(f, i)
	}
	f.move(i)
	return ""
}
