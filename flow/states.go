package flow

import (
	"slices"

	"delver/api"
)

// pass is the way through a method: what is known of each place, and whether it was seen or changed since it was last
// gone through.
type pass struct {
	*world
	method api.Method
	states []api.State
	due    []bool
}

// states answers the states of a method, or its first fault and the place that was gone through.
func (w *world) states(class string, m api.Method) (l []api.State, at int, e api.Errno) {
	given := givenTo(class, m)
	if len(m.Code) == 0 || m.Locals < len(given) {
		return nil, 0, api.ErrLen
	}
	for _, c := range m.Catches {
		if e := w.catchFault(c, len(m.Code)); e != api.OK {
			return nil, 0, e
		}
	}
	none := slices.Repeat(types(kind(api.Nothing)), m.Locals-len(given))
	v := pass{w, m, make([]api.State, len(m.Code)), make([]bool, len(m.Code))}
	v.reach(0, append(given, none...), nil)
	for at := v.least(); at >= 0; at = v.least() {
		if e := v.through(at); e != api.OK {
			return nil, at, e
		}
	}
	return v.states, 0, api.OK
}

// givenTo answers the types of the locals that a method is given: its object, if it has one, and its parameters.
func givenTo(class string, m api.Method) []api.Type {
	var l []api.Type
	if !m.Static {
		l = append(l, ref(class))
	}
	return append(l, m.Params...)
}

// catchFault answers what is wrong with a catch of so long a code.
func (w *world) catchFault(c api.Catch, long int) api.Errno {
	switch {
	case c.From >= c.To, c.To > long, c.At >= long:
		return api.ErrJump
	case !w.has(c.Name):
		return api.ErrNone
	case !w.isThrown(c.Name):
		return api.ErrType
	}
	return api.OK
}

// least answers the least place that is due; one below 0, if none is.
func (v *pass) least() int { return slices.Index(v.due, true) }

// through goes through a place. What is done there is done to a copy: the place may change meanwhile, and is due again
// then.
func (v *pass) through(at int) api.Errno {
	v.due[at] = false
	had := v.states[at]
	f := frame{world: v.world, locals: slices.Clone(had.Locals), stack: slices.Clone(had.Stack)}
	for _, c := range v.method.Catches {
		if c.From <= at && at < c.To && !v.reach(c.At, f.locals, types(ref(c.Name))) {
			return api.ErrStack
		}
	}
	if f.do(v.method.Code[at], v.method.Ret); f.e != api.OK {
		return f.e
	}
	next := Next(v.method, at)
	if slices.ContainsFunc(next, v.beyond) {
		return api.ErrJump
	}
	for _, to := range next {
		if !v.reach(to, f.locals, f.stack) {
			return api.ErrStack
		}
	}
	return api.OK
}

// beyond tells whether a place is none of the code.
func (v *pass) beyond(at int) bool { return at < 0 || at >= len(v.states) }

// reach lets a place be reached by locals and a stack; false, if its own stack is of another height.
func (v *pass) reach(at int, locals, stack []api.Type) bool {
	s := &v.states[at]
	switch {
	case !s.Seen:
		*s = api.State{Seen: true, Locals: slices.Clone(locals), Stack: slices.Clone(stack)}
		v.due[at] = true
	case len(s.Stack) != len(stack):
		return false
	default:
		changed := v.meetAll(s.Locals, locals)
		changed = v.meetAll(s.Stack, stack) || changed
		v.due[at] = v.due[at] || changed
	}
	return true
}

// meetAll lets each of a list meet one of another list, and tells whether one changes.
func (w *world) meetAll(l, by []api.Type) bool {
	changed := false
	for k, t := range by {
		met := w.meet(l[k], t)
		changed = changed || met != l[k]
		l[k] = met
	}
	return changed
}
