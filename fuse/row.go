package fuse

import (
	"slices"

	"windlass/api"
)

// readOnce: the instructions of a block; in the place of a read whose value some register has still stands a move, or nothing, if that is the register which it gives.
func readOnce(p api.Program, ops []api.Op) []api.Op {
	var once []api.Op
	var list []known
row:
	for _, o := range ops {
		asked := o
		for register := range holders(list, asked) {
			if register == asked.D {
				// It has that value already, so that nothing is given anew.
				continue row
			}
			if o == asked {
				o = api.Op{Code: api.IMove, D: asked.D, A: register}
			}
		}
		once = append(once, o)
		list = behind(p, list, asked)
	}
	return once
}

// behind: what is known behind an instruction.
func behind(p api.Program, list []known, o api.Op) []known {
	list = slices.DeleteFunc(list, func(k known) bool { return k.isLost(p, o) })
	// Where the value comes to the key's register, nobody knows any more of what key it is.
	if o.Code == api.IGet && o.D != o.A {
		list = append(list, known{readOf(o), o.D})
	}
	return list
}
