// Package pass: what the passes over units share. A pass goes over none but those whose code layer 11 takes, and is to call layers 9 and 10 alone: so that is asked here, once for all of them.
package pass

import (
	"windlass/api"
	"windlass/flow"
	"windlass/verify"
)

// Take: u in new memory, which a pass may write over; ErrFlowForm, if not flow.Is(u), or verify.Check refuses its code.
func Take(u api.Unit) (api.Unit, api.Errno) {
	c, err := flow.Flatten(u)
	if err != api.OK {
		return api.Unit{}, api.ErrFlowForm
	}
	if _, err := verify.Check(c); err != api.OK {
		return api.Unit{}, api.ErrFlowForm
	}
	// But for its blocks, a unit's code has all that it has, in new memory.
	return api.Unit{Program: c.Program, Ints: c.Ints, Texts: c.Texts, Funcs: newGraphs(u.Funcs), Events: newGraphs(u.Events)}, api.OK
}

func newGraphs(list []api.Graph) []api.Graph {
	var fresh []api.Graph
	for _, g := range list {
		fresh = append(fresh, api.Graph{Regs: g.Regs, Blocks: newBlocks(g.Blocks)})
	}
	return fresh
}

func newBlocks(list []api.Block) []api.Block {
	fresh := append([]api.Block(nil), list...)
	for i := range fresh {
		fresh[i].Ops = append([]api.Op(nil), fresh[i].Ops...)
	}
	return fresh
}
