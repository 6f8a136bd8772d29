package inline_test

import (
	"fmt"
	"slices"

	"windlass/api"
	"windlass/flow"
)

// The chapter's words said over, of each instruction by itself.

// isSmall: whether P16.2 speaks of calls of this function.
func isSmall(g api.Graph) bool {
	if len(g.Blocks) != 1 || g.Blocks[0].End != api.IRet {
		return false
	}
	isCaller := slices.ContainsFunc(g.Blocks[0].Ops, func(o api.Op) bool { return o.Code == api.ICall || o.Code == api.IEnter })
	f, _ := flow.Fn(g)
	return len(f.Ops) <= 8 && !isCaller
}

// place: an instruction of a block.
type place struct{ block, at int }

// heightsOf: of each instruction to which one comes how many IEnter more than ILeave are done on the way.
func heightsOf(blocks []api.Block) map[place]int {
	heights := map[place]int{}
	isMet := make([]bool, len(blocks))
	var follow func(block, height int)
	follow = func(block, height int) {
		if isMet[block] {
			return
		}
		isMet[block] = true
		b := blocks[block]
		for at, o := range b.Ops {
			heights[place{block, at}] = height
			switch o.Code {
			case api.IEnter:
				height++
			case api.ILeave:
				height--
			}
		}
		if b.End != api.IRet {
			follow(b.To, height)
		}
		if b.End == api.IUnless {
			follow(b.Else, height)
		}
	}
	follow(0, 0)
	return heights
}

// smallCalls: the calls of small functions of u in a graph, but for those at the greatest height.
func smallCalls(u api.Unit, g api.Graph) []place {
	var list []place
	heights := heightsOf(g.Blocks)
	for i, b := range g.Blocks {
		for at, o := range b.Ops {
			here := place{i, at}
			if o.Code == api.ICall && isSmall(u.Funcs[o.K]) && heights[here] < api.MaxCalls {
				list = append(list, here)
			}
		}
	}
	return list
}

// mustGo: whether P16.2 says of a function's graph that these calls aren't there any more.
func mustGo(u api.Unit, g api.Graph) bool {
	calls, registers := 0, g.Regs
	isMet := map[int]int{}
	for _, b := range g.Blocks {
		for _, o := range b.Ops {
			if o.Code != api.ICall {
				continue
			}
			calls++
			isMet[o.K]++
			if isSmall(u.Funcs[o.K]) && isMet[o.K] == 1 {
				registers += u.Funcs[o.K].Regs
			}
		}
	}
	f, _ := flow.Fn(g)
	return registers <= 40 && calls <= 30 && len(f.Ops) <= 1000
}

// leftOver: a call in v that isn't there any more, if v is what became of u; or nothing.
func leftOver(u, v api.Unit) string {
	for i, g := range graphs(u) {
		calls := smallCalls(u, graphs(v)[i])
		if mustGo(u, g) && len(calls) > 0 {
			return fmt.Sprintf("function %d has a call still: %v", i, calls[0])
		}
	}
	return ""
}

// modelPass: a graph of u with all calls of small functions laid in, behind its own registers; or, if there is no room, as it was.
func modelPass(u api.Unit, g api.Graph) api.Graph {
	calls := smallCalls(u, g)
	window := 0
	wide := graph(0)
	for i, b := range g.Blocks {
		ops := b.Ops
		b.Ops = nil
		for at, o := range ops {
			if !slices.Contains(calls, place{i, at}) {
				b.Ops = append(b.Ops, o)
				continue
			}
			window = max(window, u.Funcs[o.K].Regs)
			b.Ops = append(b.Ops, modelRow(u, g.Regs, o)...)
		}
		wide.Blocks = append(wide.Blocks, b)
	}
	wide.Regs = g.Regs + window
	if f, _ := flow.Fn(wide); wide.Regs > api.MaxRegs || len(f.Ops) > api.MaxOps {
		return g
	}
	return wide
}

// modelRow: what a call becomes.
func modelRow(u api.Unit, base int, call api.Op) []api.Op {
	row := []api.Op{op(api.IEnter)}
	for i := range u.Program.Funcs[call.K].Params {
		row = append(row, move(base+i, call.A+i))
	}
	body := u.Funcs[call.K].Blocks[0]
	for _, o := range body.Ops {
		row = append(row, moved(o, base))
	}
	if call.D >= 0 && body.A >= 0 {
		row = append(row, move(call.D, base+body.A))
	}
	return append(row, op(api.ILeave))
}

// fields: by P9.1, which of D, A, B an instruction has; nothing of one that no small function has.
func fields(code int) string {
	switch {
	case code <= api.IBool:
		return "D"
	case code == api.IMove, code >= api.INeg && code <= api.IHas, code == api.IAsk:
		return "DA"
	case code < api.INeg, code == api.INext:
		return "DAB"
	case code == api.IPut, code == api.IAfter:
		return "AB"
	case code == api.IDel, code == api.IEmit:
		return "A"
	}
	return ""
}

// moved: the same instruction on registers that lie so much further on.
func moved(o api.Op, by int) api.Op {
	for _, name := range fields(o.Code) {
		switch name {
		case 'D':
			o.D += by
		case 'A':
			o.A += by
		case 'B':
			o.B += by
		}
	}
	return o
}
