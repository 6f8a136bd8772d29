package fuse_test

import (
	"fmt"
	"slices"

	"windlass/api"
)

// The chapter's words said over, of each two reads of a row by themselves.

// givesAnew: by P9.1, whether an instruction gives a register.
func givesAnew(o api.Op, register int) bool {
	switch o.Code {
	case api.IPut, api.IDel, api.IEmit, api.IAfter, api.ICharge, api.IEnter, api.ILeave, api.IJump, api.IUnless, api.IRet:
		return false
	case api.INext:
		return slices.Contains([]int{o.D, o.A, o.B}, register)
	}
	return o.D == register
}

// parts: whether an instruction between two reads of which the first is this one lets the second one be.
func parts(o, first api.Op) bool {
	isWritten := (o.Code == api.IPut || o.Code == api.IDel) && o.K == first.K
	return isWritten || o.Code == api.ICall || givesAnew(o, first.A) || givesAnew(o, first.D)
}

// isSameRead: of one map and one register.
func isSameRead(one, other api.Op) bool {
	return one.Code == api.IGet && other.Code == api.IGet && one.K == other.K && one.A == other.A
}

// isAgain: whether the read at place second is one of P17.2, for the one at place first; a read whose D is its own A gives that anew.
func isAgain(ops []api.Op, first, second int) bool {
	one := ops[first]
	if !isSameRead(one, ops[second]) || one.D == one.A {
		return false
	}
	return !slices.ContainsFunc(ops[first+1:second], func(o api.Op) bool { return parts(o, one) })
}

// readTwice: two reads of one block that P17.2 rules out; or nothing.
func readTwice(u api.Unit) string {
	for fn, g := range graphs(u) {
		for i, b := range g.Blocks {
			for second := range b.Ops {
				for first := range second {
					if isAgain(b.Ops, first, second) {
						return fmt.Sprintf("function %d, block %d: instruction %d reads what %d read", fn, i, second, first)
					}
				}
			}
		}
	}
	return ""
}

// modelPass: what becomes of a row, read by read from its beginning: the move is from the first register that has the value.
func modelPass(ops []api.Op) []api.Op {
	// All that is left of the row so far, as it was.
	var row, now []api.Op
	for _, o := range ops {
		row = append(row, o)
		var holders []int
		for first := range len(row) - 1 {
			if isAgain(row, first, len(row)-1) {
				holders = append(holders, row[first].D)
			}
		}
		switch {
		case slices.Contains(holders, o.D):
			row = row[:len(row)-1]
		case len(holders) > 0:
			now = append(now, move(o.D, holders[0]))
		default:
			now = append(now, o)
		}
	}
	return now
}
