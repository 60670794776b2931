package hier

import "delver/api"

// copyList answers a copy without spare room. An empty one is new too: a slice of the list itself would still hold on
// to its memory.
func copyList[T any](l []T) []T {
	if len(l) == 0 {
		return nil
	}
	out := make([]T, len(l))
	copy(out, l)
	return out
}

// copyClass answers a copy that shares no list with c.
func copyClass(c api.Class) api.Class {
	c.Ifaces, c.Fields, c.Methods = copyList(c.Ifaces), copyList(c.Fields), copyList(c.Methods)
	for i, m := range c.Methods {
		m.Params, m.Code, m.Catches = copyList(m.Params), copyList(m.Code), copyList(m.Catches)
		c.Methods[i] = m
	}
	return c
}
