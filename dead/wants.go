package dead

import (
	"iter"
	"slices"

	"windlass/api"
	"windlass/code"
)

// wants: which registers are wanted in the blocks of a function: used, before they are given anew, by what does more than giving a register, or gives one that is wanted itself.
type wants struct {
	program api.Program
	blocks  []api.Block
	begins  []registers // those that are wanted at each block's beginning, as far as it is reckoned
}

func newWants(p api.Program, blocks []api.Block) wants {
	return wants{p, blocks, make([]registers, len(blocks))}
}

// reckon goes backwards, first through all blocks, then again and again through those behind which more is wanted, until nothing changes.
func (w wants) reckon() {
	var open []int
	comers := map[int][]int{} // the blocks from which one goes to a block
	for from, b := range w.blocks {
		open = append(open, from)
		for _, to := range targets(b) {
			comers[to] = append(comers[to], from)
		}
	}
reckoning:
	for len(open) > 0 {
		at := open[len(open)-1]
		open = open[:len(open)-1]
		wanted := w.behind(w.blocks[at])
		for _, ahead := range w.needed(w.blocks[at]) {
			wanted = ahead
		}
		if wanted == w.begins[at] {
			continue reckoning
		}
		w.begins[at] = wanted
		open = append(open, comers[at]...)
	}
}

// leaveOut writes over the blocks: what isn't needed goes.
func (w wants) leaveOut() {
	for i, b := range w.blocks {
		var kept []api.Op
		for o := range w.needed(b) {
			kept = append(kept, o)
		}
		slices.Reverse(kept)
		w.blocks[i].Ops = kept
	}
}

// needed hands on, from the last one to the first, the instructions of a block that do more than giving a register that isn't wanted, each with the registers that are wanted ahead of it.
func (w wants) needed(b api.Block) iter.Seq2[api.Op, registers] {
	return func(yield func(api.Op, registers) bool) {
		wanted := w.behind(b)
		for _, o := range slices.Backward(b.Ops) {
			d, isGiven := code.Gives(w.program, o)
			if isGiven {
				if onlyGives(o.Code) && !wanted.has(d) {
					continue
				}
				wanted = wanted.without(d)
			}
			// Code that was taken names nothing that isn't there, so that Uses always answers. What INext may give beside its D, it uses.
			used, _ := code.Uses(w.program, o)
			wanted = wanted.with(used...)
			if !yield(o, wanted) {
				return
			}
		}
	}
}

// behind: the registers that are wanted behind a block's instructions.
func (w wants) behind(b api.Block) registers {
	var wanted registers
	for _, to := range targets(b) {
		wanted |= w.begins[to]
	}
	// An IJump has no A, and an IRet's may be nothing.
	if b.End != api.IJump && b.A >= 0 {
		wanted = wanted.with(b.A)
	}
	return wanted
}

// onlyGives: whether an instruction gives a register and does nothing else; it never traps.
func onlyGives(code int) bool {
	switch code {
	case api.IInt, api.IText, api.IBool, api.IMove, api.IWAdd, api.IWSub, api.IWMul, api.INot, api.ILen, api.IStr,
		api.IEq, api.INe, api.ILt, api.ILe, api.IGt, api.IGe, api.IMake, api.IField, api.IGet, api.IHas:
		return true
	}
	return false
}
