package flow

import (
	"windlass/api"
)

// isGraph: whether its blocks can be.
func isGraph(g api.Graph) bool {
	count := len(g.Blocks)
	if count == 0 || count > api.MaxOps {
		return false
	}
	for _, b := range g.Blocks {
		if !isEnd(b) || !areWithin(targets(b), count) || !areStraight(b.Ops) {
			return false
		}
	}
	return true
}

// isEnd: whether b ends in one of the three ways, with no field beside that way's own; where it goes isn't looked at.
func isEnd(b api.Block) bool {
	switch b.End {
	case api.IJump:
		return b.A == 0 && b.Else == 0
	case api.IUnless:
		return b.A >= 0
	case api.IRet:
		return b.A >= -1 && b.To == 0 && b.Else == 0
	}
	return false
}

// targets: the blocks to which one goes from b.
func targets(b api.Block) []int {
	switch b.End {
	case api.IJump:
		return []int{b.To}
	case api.IUnless:
		return []int{b.To, b.Else}
	}
	return nil
}

func areWithin(numbers []int, count int) bool {
	for _, n := range numbers {
		if n < 0 || n >= count {
			return false
		}
	}
	return true
}

func areStraight(ops []api.Op) bool {
	for _, o := range ops {
		if isJump(o) || o.Code == api.IRet {
			return false
		}
	}
	return true
}

func isJump(o api.Op) bool {
	return o.Code == api.IJump || o.Code == api.IUnless
}

// laid: the blocks one behind the other. Where a later block begins is known only at the end: until then a jump has the block's number.
func laid(blocks []api.Block) []api.Op {
	var ops []api.Op
	begins := make([]int, len(blocks))
	for i, b := range blocks {
		begins[i] = len(ops)
		ops = append(ops, b.Ops...)
		ops = append(ops, ending(b, i+1)...)
	}
	for i, o := range ops {
		if isJump(o) {
			ops[i].K = begins[o.K]
		}
	}
	return ops
}

// ending: the instructions behind a block's own, if block next is laid behind it; jumps have blocks' numbers.
func ending(b api.Block, next int) []api.Op {
	switch b.End {
	case api.IUnless:
		return append([]api.Op{{Code: api.IUnless, A: b.A, K: b.To}}, leap(b.Else, next)...)
	case api.IRet:
		return []api.Op{{Code: api.IRet, A: b.A}}
	}
	return leap(b.To, next)
}

// leap: to the block that comes anyway nothing jumps.
func leap(to, next int) []api.Op {
	if to == next {
		return nil
	}
	return []api.Op{{Code: api.IJump, K: to}}
}
