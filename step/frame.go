package step

import (
	"slices"

	"delver/api"
	"delver/heap"
	"delver/ints"
)

// frame is one of a run's, with its method.
type frame struct {
	owned
	pc     int
	locals []api.Val
	stack  []api.Val
}

// frameOf answers a frame of a method, with what that is given, which is the frame's from now on.
func frameOf(o owned, given []api.Val) *frame {
	none := make([]api.Val, o.method.Locals-len(given))
	return &frame{owned: o, locals: append(given, none...)}
}

// next answers the instruction at its place.
func (f *frame) next() api.Instr { return f.method.Code[f.pc] }

// give lays a value on the stack.
func (f *frame) give(v api.Val) { f.stack = append(f.stack, v) }

// take takes the stack's top.
func (f *frame) take() api.Val {
	top := len(f.stack) - 1
	v := f.stack[top]
	f.stack = f.stack[:top]
	return v
}

// takeTwo takes two values, and answers the one that lay below ahead of the other one.
func (f *frame) takeTwo() (a, b api.Val) {
	b = f.take()
	return f.take(), b
}

// takeAll takes so many values, and answers them from the lowest one on.
func (f *frame) takeAll(n int) []api.Val {
	low := len(f.stack) - n
	l := slices.Clone(f.stack[low:])
	f.stack = f.stack[:low]
	return l
}

// move does an instruction that moves values about in the frame; a nop moves none.
func (f *frame) move(i api.Instr) {
	switch i.Op {
	case api.OpConst:
		f.give(api.Val{N: i.N})
	case api.OpNull:
		f.give(null())
	case api.OpLoad:
		f.give(f.locals[i.N])
	case api.OpStore:
		f.locals[i.N] = f.take()
	case api.OpPop:
		f.take()
	case api.OpDup:
		v := f.take()
		f.give(v)
		f.give(v)
	case api.OpSwap:
		a, b := f.takeTwo()
		f.give(b)
		f.give(a)
	}
}

// reckon gives what comes of numbers, and answers the class of what is thrown.
func (f *frame) reckon(op int) (fault string) {
	n, ok := f.reckoned(op)
	if !ok {
		return numError
	}
	f.give(api.Val{N: n})
	return ""
}

// reckoned answers what comes of the numbers that an instruction takes.
func (f *frame) reckoned(op int) (int, bool) {
	if op == api.OpNeg {
		return ints.Neg(f.take().N)
	}
	a, b := f.takeTwo()
	switch op {
	case api.OpAdd:
		return ints.Add(a.N, b.N)
	case api.OpSub:
		return ints.Sub(a.N, b.N)
	case api.OpMul:
		return ints.Mul(a.N, b.N)
	case api.OpDiv:
		return ints.Div(a.N, b.N)
	}
	return ints.Rem(a.N, b.N)
}

// jump goes on at an instruction's N, or at the next place.
func (f *frame) jump(i api.Instr) {
	if f.jumps(i.Op) {
		f.pc = i.N
	} else {
		f.pc++
	}
}

// jumps tells whether a jump is taken.
func (f *frame) jumps(op int) bool {
	switch op {
	case api.OpEq:
		return f.take().N == 0
	case api.OpNe:
		return f.take().N != 0
	case api.OpLt:
		return f.take().N < 0
	case api.OpGe:
		return f.take().N >= 0
	case api.OpIfNull:
		return f.take() == null()
	case api.OpIfRef:
		return f.take() != null()
	case api.OpGoto:
		return true
	}
	return f.jumpsOfTwo(op)
}

// jumpsOfTwo tells whether a jump that looks at two values is taken.
func (f *frame) jumpsOfTwo(op int) bool {
	a, b := f.takeTwo()
	switch op {
	case api.OpCmpEq, api.OpSame:
		return a == b
	case api.OpCmpNe, api.OpOther:
		return a != b
	case api.OpCmpLt:
		return a.N < b.N
	}
	return a.N >= b.N
}

// null answers the reference to nothing, which is the nought of each reference's type.
func null() api.Val { return heap.Zero(api.Type{Kind: api.Ref}) }
