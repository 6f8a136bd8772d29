package dead_test

import (
	"fmt"
	"slices"

	"windlass/api"
	"windlass/code"
)

// The chapter's words said over: of each instruction by itself, forwards, by all ways from it.

// isNamed: whether P15.2 names it.
func isNamed(o api.Op) bool {
	return slices.Contains([]int{
		api.IInt, api.IText, api.IBool, api.IMove, api.IEq, api.INe, api.ILt, api.ILe, api.IGt, api.IGe, api.INot, api.ILen, api.IStr,
		api.IWAdd, api.IWSub, api.IWMul, api.IMake, api.IField, api.IGet, api.IHas,
	}, o.Code)
}

// place: an instruction of a block; behind the last one its end.
type place struct{ block, at int }

// isUsed: whether some way from a place on uses a register before it is given anew; counts tells which instructions' uses count.
func isUsed(p api.Program, blocks []api.Block, from place, register int, counts func(place) bool) bool {
	met := map[place]bool{}
	open := []place{from}
	for len(open) > 0 {
		at := open[0]
		open = open[1:]
		if met[at] {
			continue
		}
		met[at] = true
		b := blocks[at.block]
		if at.at == len(b.Ops) {
			if b.End != api.IJump && b.A == register {
				return true
			}
			for _, to := range next(b) {
				open = append(open, place{to, 0})
			}
			continue
		}
		o := b.Ops[at.at]
		if used, _ := code.Uses(p, o); slices.Contains(used, register) && counts(at) {
			return true
		}
		if d, isGiven := code.Gives(p, o); !isGiven || d != register {
			open = append(open, place{at.block, at.at + 1})
		}
	}
	return false
}

// next: the blocks to which one goes from b.
func next(b api.Block) []int {
	switch b.End {
	case api.IJump:
		return []int{b.To}
	case api.IUnless:
		return []int{b.To, b.Else}
	}
	return nil
}

// met: of each block whether one comes to it from the first.
func met(blocks []api.Block) []bool {
	list := make([]bool, len(blocks))
	list[0] = true
	for changed := true; changed; {
		changed = false
		for i, b := range blocks {
			for _, to := range next(b) {
				if list[i] && !list[to] {
					list[to], changed = true, true
				}
			}
		}
	}
	return list
}

// knownTruths: the registers that an IBool of a block gave, and not anew since.
func knownTruths(p api.Program, ops []api.Op) map[int]bool {
	known := map[int]bool{}
	for _, o := range ops {
		if d, isGiven := code.Gives(p, o); isGiven {
			delete(known, d)
		}
		switch o.Code {
		case api.IBool:
			known[o.D] = o.K == 1
		case api.INext:
			delete(known, o.A)
			delete(known, o.B)
		}
	}
	return known
}

// leftOver: something in u that P15.2 says isn't there, or nothing.
func leftOver(u api.Unit) string {
	for fn, g := range graphs(u) {
		if i := slices.Index(met(g.Blocks), false); i >= 0 {
			return fmt.Sprintf("block %d of function %d isn't reached", i, fn)
		}
		for i, b := range g.Blocks {
			if _, isKnown := knownTruths(u.Program, b.Ops)[b.A]; b.End == api.IUnless && isKnown {
				return fmt.Sprintf("block %d of function %d goes one way alone", i, fn)
			}
			for at, o := range b.Ops {
				if isNamed(o) && !isUsed(u.Program, g.Blocks, place{i, at + 1}, o.D, func(place) bool { return true }) {
					return fmt.Sprintf("instruction %d of block %d of function %d (%s) isn't wanted", at, i, fn, code.Line(o))
				}
			}
		}
	}
	return ""
}

// modelPass: what is left of the blocks of a function if all goes that is never reached or never wanted, rows with it that want only one another, in a ring, too.
func modelPass(p api.Program, was []api.Block) []api.Block {
	blocks := modelWays(p, was)
	isNeeded := map[place]bool{}
	counts := func(at place) bool { return isNeeded[at] }
	for changed := true; changed; {
		changed = false
		for i, b := range blocks {
			for at, o := range b.Ops {
				here := place{i, at}
				if !isNeeded[here] && (!isNamed(o) || isUsed(p, blocks, place{i, at + 1}, o.D, counts)) {
					isNeeded[here], changed = true, true
				}
			}
		}
	}
	for i, b := range blocks {
		blocks[i].Ops = nil
		for at, o := range b.Ops {
			if isNeeded[place{i, at}] {
				blocks[i].Ops = append(blocks[i].Ops, o)
			}
		}
	}
	return blocks
}

// modelWays: the blocks that are reached if an IUnless whose truth is known goes one way alone.
func modelWays(p api.Program, was []api.Block) []api.Block {
	blocks := slices.Clone(was)
	for i, b := range was {
		isTrue, isKnown := knownTruths(p, b.Ops)[b.A]
		if b.End != api.IUnless || !isKnown {
			continue
		}
		blocks[i] = jump(b.To, b.Ops...)
		if isTrue {
			blocks[i].To = b.Else
		}
	}
	isMet := met(blocks)
	// number: how many are met ahead of it.
	number := func(i int) int {
		n := 0
		for _, is := range isMet[:i] {
			if is {
				n++
			}
		}
		return n
	}
	var left []api.Block
	for i, b := range blocks {
		if !isMet[i] {
			continue
		}
		b.To = number(b.To)
		b.Else = number(b.Else)
		left = append(left, b)
	}
	return left
}
