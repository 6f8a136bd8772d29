package inline

import (
	"iter"

	"windlass/api"
	"windlass/code"
	"windlass/flow"
)

// caller: a function or handler, in which calls of small functions are laid.
type caller struct {
	program api.Program
	small   map[int]api.Graph
	graph   api.Graph
}

// place: of an instruction: its block, and which one it is there.
type place struct{ block, at int }

// calls hands on those that are laid in. Where as many calls are open as may be, an ICall traps, as an IEnter would; but layer 11 takes no IEnter there.
func (c caller) calls() iter.Seq2[place, api.Op] {
	return func(yield func(place, api.Op) bool) {
		for block, height := range heights(c.graph.Blocks) {
			for at, o := range c.graph.Blocks[block].Ops {
				_, isSmall := c.small[o.K]
				if o.Code == api.ICall && isSmall && height < api.MaxCalls && !yield(place{block, at}, o) {
					return
				}
				height = behind(o, height)
			}
		}
	}
}

// laid: the graph with all calls laid in that can be; false, if there is no room for them.
func (c caller) laid() (api.Graph, bool) {
	rows := map[place][]api.Op{}
	window := 0
	for at, call := range c.calls() {
		rows[at] = c.row(call)
		window = max(window, c.small[call.K].Regs)
	}
	wide := api.Graph{Regs: c.graph.Regs + window}
	for i, b := range c.graph.Blocks {
		var ops []api.Op
		for at, o := range b.Ops {
			row, isLaid := rows[place{i, at}]
			if !isLaid {
				row = []api.Op{o}
			}
			ops = append(ops, row...)
		}
		b.Ops = ops
		wide.Blocks = append(wide.Blocks, b)
	}
	f, err := flow.Fn(wide)
	return wide, err == api.OK && f.Regs <= api.MaxRegs && len(f.Ops) <= api.MaxOps
}

// row: what is laid in a call's place. The function's registers stand behind the caller's own, those of all functions at one place: as each gives a register before it uses it, it doesn't matter what another one left there.
func (c caller) row(call api.Op) []api.Op {
	there := func(register int) int { return c.graph.Regs + register }
	row := []api.Op{{Code: api.IEnter}}
	// Code that was taken names nothing that isn't there, so that Uses always answers.
	arguments, _ := code.Uses(c.program, call)
	for i, register := range arguments {
		row = append(row, api.Op{Code: api.IMove, D: there(i), A: register})
	}
	body := c.small[call.K].Blocks[0]
	for _, o := range body.Ops {
		for _, register := range registers(&o) {
			*register = there(*register)
		}
		row = append(row, o)
	}
	if call.D >= 0 && body.A >= 0 {
		row = append(row, api.Op{Code: api.IMove, D: call.D, A: there(body.A)})
	}
	return append(row, api.Op{Code: api.ILeave})
}

// registers: the fields of an instruction that are registers, of any that a small function may have.
func registers(o *api.Op) []*int {
	switch o.Code {
	case api.ICharge:
		return nil
	case api.IInt, api.IText, api.IBool:
		return []*int{&o.D}
	case api.IDel, api.IEmit:
		return []*int{&o.A}
	case api.IPut, api.IAfter:
		return []*int{&o.A, &o.B}
	case api.IMove, api.INeg, api.INot, api.ILen, api.IStr, api.IMake, api.IField, api.IGet, api.IHas, api.IAsk:
		return []*int{&o.D, &o.A}
	}
	return []*int{&o.D, &o.A, &o.B}
}
