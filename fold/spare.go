package fold

import (
	"slices"

	"windlass/api"
	"windlass/code"
)

// Long expressions of literals have more constants on the way than there may be in all, but nobody wants these once they are reckoned.

// use: what becomes of a register's value from some place of its block on.
type use int

const (
	wanted       use = iota // an instruction that stays uses it, or it is there at the block's end
	unused                  // it is given anew
	reckonedWith            // likewise, but instructions used it that are constants now
)

// spare: of each instruction whether it can be left out, as it gives a constant that was only reckoned with; none, if that isn't asked for.
func (f *folder) spare(ops []api.Op, given []constant) []bool {
	isSpare := make([]bool, len(ops))
	if !f.isSparing {
		return isSpare
	}
	var uses [api.MaxRegs]use
	for i, o := range slices.Backward(ops) {
		isConstant := given[i].isKnown()
		if d, isGiven := code.Gives(f.unit.Program, o); isGiven {
			// What is reckoned with is a constant.
			isSpare[i] = uses[d] == reckonedWith
			uses[d] = unused
		}
		used, _ := code.Uses(f.unit.Program, o)
		for _, register := range used {
			switch {
			case !isConstant:
				uses[register] = wanted
			case uses[register] == unused:
				uses[register] = reckonedWith
			}
		}
	}
	return isSpare
}
