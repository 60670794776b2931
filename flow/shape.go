package flow

import (
	"slices"

	"delver/api"
)

// shape is what an instruction does, if that is the same at every place: it takes such types, in this order, and gives
// such ones.
type shape struct {
	missing bool // what it names is not there
	takes   []api.Type
	gives   []api.Type
}

// kind answers the type of a kind that has no name.
func kind(k int) api.Type { return api.Type{Kind: k} }

func ref(name string) api.Type { return api.Type{Kind: api.Ref, Name: name} }

// anyRef answers the type that all references fit, and nothing else does.
func anyRef() api.Type { return ref(object) }

func types(l ...api.Type) []api.Type { return l }

// shapeOf answers the shape of an instruction; of one that has none, that of nop.
func (w *world) shapeOf(i api.Instr) shape {
	i.N = 0 // it changes no shape
	return remembered(w.does, i, func(i api.Instr) shape {
		if i.A != "" {
			s, ok := w.named(i)
			s.missing = !ok
			return s
		}
		return plain(i.Op)
	})
}

// plain answers the shape of an instruction that names nothing.
func plain(op int) shape {
	num := kind(api.Int)
	switch op {
	case api.OpConst:
		return shape{gives: types(num)}
	case api.OpNull:
		return shape{gives: types(kind(api.Null))}
	case api.OpAdd, api.OpSub, api.OpMul, api.OpDiv, api.OpRem:
		return shape{takes: types(num, num), gives: types(num)}
	case api.OpNeg:
		return shape{takes: types(num), gives: types(num)}
	case api.OpEq, api.OpNe, api.OpLt, api.OpGe:
		return shape{takes: types(num)}
	case api.OpCmpEq, api.OpCmpNe, api.OpCmpLt, api.OpCmpGe:
		return shape{takes: types(num, num)}
	case api.OpIfNull, api.OpIfRef:
		return shape{takes: types(anyRef())}
	case api.OpSame, api.OpOther:
		return shape{takes: types(anyRef(), anyRef())}
	case api.OpInts:
		return shape{takes: types(num), gives: types(kind(api.IntRow))}
	case api.OpThrow:
		return shape{takes: types(ref(thrown))}
	}
	return shape{}
}

// named answers the shape of an instruction that names something; false, if that is not there.
func (w *world) named(i api.Instr) (shape, bool) {
	num, one := kind(api.Int), ref(i.A)
	switch i.Op {
	case api.OpNew:
		return shape{gives: types(one)}, w.isClass(i.A)
	case api.OpGet:
		t, ok := w.slot(i.A, i.B)
		return shape{takes: types(one), gives: types(t)}, ok
	case api.OpPut:
		t, ok := w.slot(i.A, i.B)
		return shape{takes: types(t, one)}, ok
	case api.OpGets:
		t, ok := w.static(i.A, i.B)
		return shape{gives: types(t)}, ok
	case api.OpPuts:
		t, ok := w.static(i.A, i.B)
		return shape{takes: types(t)}, ok
	case api.OpRefs:
		return shape{takes: types(num), gives: types(api.Type{Kind: api.RefRow, Name: i.A})}, w.has(i.A)
	case api.OpIs:
		return shape{takes: types(anyRef()), gives: types(num)}, w.has(i.A)
	case api.OpCast:
		return shape{takes: types(anyRef()), gives: types(one)}, w.has(i.A)
	case api.OpCall:
		m, ok := w.call(i.A, i.B)
		return called(m, one), ok
	case api.OpFunc:
		m, ok := w.function(i.A, i.B)
		return called(m), ok
	}
	return shape{}, true
}

// called answers the shape of a call: its object, if it has one, lies below its parameters.
func called(m api.Method, object ...api.Type) shape {
	s := shape{takes: append(slices.Clone(object), m.Params...)}
	slices.Reverse(s.takes)
	if m.Ret.Kind != api.Void {
		s.gives = types(m.Ret)
	}
	return s
}
