package dead

import (
	"slices"

	"windlass/api"
	"windlass/code"
	"windlass/flow"
)

// goOneWay: where an IBool of a block tells its IUnless's truth, an IJump takes the IUnless's place.
func goOneWay(p api.Program, blocks []api.Block) {
	for i, b := range blocks {
		if b.End != api.IUnless {
			continue
		}
		truth, isKnown := lastTruth(p, b.Ops, b.A)
		switch {
		case isKnown && truth:
			blocks[i] = api.Block{Ops: b.Ops, End: api.IJump, To: b.Else}
		case isKnown:
			blocks[i] = api.Block{Ops: b.Ops, End: api.IJump, To: b.To}
		}
	}
}

// lastTruth: which truth a register has behind these instructions, if an IBool of them gives it and none behind that anew.
func lastTruth(p api.Program, ops []api.Op, register int) (bool, bool) {
	for _, o := range slices.Backward(ops) {
		d, isGiven := code.Gives(p, o)
		switch {
		case isGiven && d == register:
			return o.Code == api.IBool && o.K == 1, o.Code == api.IBool
		case o.Code == api.INext && o.B == register:
			// Gives tells D alone, but the truth changes, too. (So does the key, but that is no truth.)
			return false, false
		}
	}
	return false, false
}

// reached: the blocks of g to which one comes, in their order; where they go stands in their new numbers.
func reached(g api.Graph) []api.Block {
	// Blocks that were taken are a graph's, so that Reached always answers.
	isReached, _ := flow.Reached(g)
	var kept []api.Block
	numbers := map[int]int{}
	for i, b := range g.Blocks {
		if isReached[i] {
			numbers[i] = len(kept)
			kept = append(kept, b)
		}
	}
	for i, b := range kept {
		// A block that hasn't one of these has 0 there, and the first block stays the first.
		kept[i].To, kept[i].Else = numbers[b.To], numbers[b.Else]
	}
	return kept
}

// targets: the blocks to which one goes from b.
func targets(b api.Block) []int {
	switch b.End {
	case api.IJump:
		return []int{b.To}
	case api.IUnless:
		return []int{b.To, b.Else}
	}
	return nil
}
