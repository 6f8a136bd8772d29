package flow_test

import (
	"math"
	"math/rand"
	"slices"
	"testing"

	"windlass/api"
	"windlass/code"
	"windlass/flow"
)

func op(code int) api.Op             { return api.Op{Code: code} }
func opTo(code, k int) api.Op        { return api.Op{Code: code, K: k} }
func retOp(a int) api.Op             { return api.Op{Code: api.IRet, A: a} }
func unlessOp(a, k int) api.Op       { return api.Op{Code: api.IUnless, A: a, K: k} }
func charges(count int) []api.Op     { return slices.Repeat([]api.Op{op(api.ICharge)}, count) }
func numbered(k int) api.Op          { return api.Op{Code: api.IInt, K: k} }
func graph(l ...api.Block) api.Graph { return api.Graph{Regs: 7, Blocks: l} }
func function(ops ...api.Op) api.Fn  { return api.Fn{Regs: 7, Ops: ops} }
func jump(to int, o ...api.Op) api.Block {
	return api.Block{Ops: o, End: api.IJump, To: to}
}

func ret(a int, o ...api.Op) api.Block {
	return api.Block{Ops: o, End: api.IRet, A: a}
}

func unless(a, to, other int, o ...api.Op) api.Block {
	return api.Block{Ops: o, End: api.IUnless, A: a, To: to, Else: other}
}

// great: numbers far from every block, register and instruction.
var great = []int{math.MaxInt, math.MinInt, math.MaxInt32, math.MinInt32, 1 << 32, -1 << 32}

// refused: P10.1's reasons said over.
func refused(g api.Graph) bool {
	isBlock := func(n int) bool { return 0 <= n && n < len(g.Blocks) }
	if len(g.Blocks) < 1 || len(g.Blocks) > 2000 {
		return true
	}
	for _, b := range g.Blocks {
		bad := false
		switch b.End {
		case api.IJump:
			bad = !isBlock(b.To) || b.A != 0 || b.Else != 0
		case api.IUnless:
			bad = !isBlock(b.To) || !isBlock(b.Else) || b.A < 0
		case api.IRet:
			bad = b.To != 0 || b.Else != 0 || b.A < -1
		default:
			bad = true
		}
		for _, o := range b.Ops {
			bad = bad || o.Code == api.IJump || o.Code == api.IUnless || o.Code == api.IRet
		}
		if bad {
			return true
		}
	}
	return false
}

// lengths: how many instructions each block has in the row.
func lengths(g api.Graph) []int {
	var list []int
	for i, b := range g.Blocks {
		n := len(b.Ops)
		if b.End == api.IUnless || b.End == api.IRet {
			n++
		}
		if b.End == api.IJump && b.To != i+1 || b.End == api.IUnless && b.Else != i+1 {
			n++
		}
		list = append(list, n)
	}
	return list
}

// modelFn: P10.1 said over.
func modelFn(g api.Graph) (api.Fn, bool) {
	if refused(g) {
		return api.Fn{}, false
	}
	begin := []int{0}
	for _, n := range lengths(g) {
		begin = append(begin, begin[len(begin)-1]+n)
	}
	f := api.Fn{Regs: g.Regs}
	for i, b := range g.Blocks {
		f.Ops = append(f.Ops, b.Ops...)
		switch {
		case b.End == api.IJump && b.To != i+1:
			f.Ops = append(f.Ops, opTo(api.IJump, begin[b.To]))
		case b.End == api.IRet:
			f.Ops = append(f.Ops, retOp(b.A))
		case b.End == api.IUnless:
			f.Ops = append(f.Ops, unlessOp(b.A, begin[b.To]))
			if b.Else != i+1 {
				f.Ops = append(f.Ops, opTo(api.IJump, begin[b.Else]))
			}
		}
	}
	return f, true
}

// closure: what is met from 0 on, by ways that are told again and again until nothing new is met.
func closure(count int, goes func(from, to int) bool) []bool {
	met := make([]bool, count)
	met[0] = true
	for changed := true; changed; {
		changed = false
		for from := range count {
			for to := range count {
				if met[from] && !met[to] && goes(from, to) {
					met[to], changed = true, true
				}
			}
		}
	}
	return met
}

// modelReached: P10.2 said over, of blocks.
func modelReached(g api.Graph) ([]bool, bool) {
	if refused(g) {
		return nil, false
	}
	return closure(len(g.Blocks), func(from, to int) bool {
		b := g.Blocks[from]
		return b.End != api.IRet && b.To == to || b.End == api.IUnless && b.Else == to
	}), true
}

// modelSteps: P10.2 said over, of instructions.
func modelSteps(f api.Fn) ([]bool, bool) {
	for _, o := range f.Ops {
		if (o.Code == api.IJump || o.Code == api.IUnless) && (o.K < 0 || o.K >= len(f.Ops)) {
			return nil, false
		}
	}
	if len(f.Ops) == 0 {
		return nil, false
	}
	return closure(len(f.Ops), func(from, to int) bool {
		o := f.Ops[from]
		switch o.Code {
		case api.IJump:
			return to == o.K
		case api.IRet:
			return false
		case api.IUnless:
			return to == o.K || to == from+1
		}
		return to == from+1
	}), true
}

// modelFlatten: P10.1 said over, of units.
func modelFlatten(u api.Unit) (api.Code, bool) {
	c := api.Code{Program: u.Program, Ints: u.Ints, Texts: u.Texts}
	for _, g := range u.Funcs {
		f, ok := modelFn(g)
		if !ok {
			return api.Code{}, false
		}
		c.Funcs = append(c.Funcs, f)
	}
	for _, g := range u.Events {
		f, ok := modelFn(g)
		if !ok {
			return api.Code{}, false
		}
		c.Events = append(c.Events, f)
	}
	if !code.Is(c) {
		return api.Code{}, false
	}
	return c, true
}

func sameFn(a, b api.Fn) bool { return a.Regs == b.Regs && slices.Equal(a.Ops, b.Ops) }

// errorIf: what is answered beside ok.
func errorIf(ok bool) api.Errno {
	if ok {
		return api.OK
	}
	return api.ErrFlowForm
}

// wantGraph holds Fn and Reached against the model; it tells whether g is taken.
func wantGraph(t *testing.T, g api.Graph) bool {
	t.Helper()
	want, ok := modelFn(g)
	f, err := flow.Fn(g)
	if err != errorIf(ok) || !sameFn(f, want) {
		t.Errorf("P10.1: Fn of %v: %v, %d; want %v, %d", short(g), f, err, want, errorIf(ok))
	}
	wantMet, _ := modelReached(g)
	met, err := flow.Reached(g)
	if err != errorIf(ok) || !slices.Equal(met, wantMet) {
		t.Errorf("P10.2: Reached of %v: %v, %d; want %v, %d", short(g), met, err, wantMet, errorIf(ok))
	}
	return ok
}

// short: a graph of many blocks isn't told whole.
func short(g api.Graph) api.Graph {
	g.Blocks = g.Blocks[:min(len(g.Blocks), 8)]
	return g
}

// wantSteps holds Steps against the model; it tells whether f is taken.
func wantSteps(t *testing.T, f api.Fn) bool {
	t.Helper()
	want, ok := modelSteps(f)
	met, err := flow.Steps(f)
	if err != errorIf(ok) || !slices.Equal(met, want) {
		t.Errorf("P10.2: Steps of %v: %v, %d; want %v, %d", f, met, err, want, errorIf(ok))
	}
	return ok
}

// wantUnit holds Flatten and Is against the model; it tells whether u is taken.
func wantUnit(t *testing.T, what string, u api.Unit) bool {
	t.Helper()
	want, ok := modelFlatten(u)
	c, err := flow.Flatten(u)
	if err != errorIf(ok) || !code.Same(c, want) {
		t.Errorf("P10.1: Flatten: %s: %v, %d; want %v, %d", what, c, err, want, errorIf(ok))
	}
	if flow.Is(u) != ok {
		t.Errorf("P10.1: Is: %s: %t", what, !ok)
	}
	return ok
}

// maker makes graphs, functions and units by chance.
type maker struct{ *rand.Rand }

// graph: one that is taken.
func (k maker) graph(most int) api.Graph {
	g := api.Graph{Regs: 3 + k.Intn(4), Blocks: make([]api.Block, 1+k.Intn(most))}
	for i := range g.Blocks {
		g.Blocks[i] = k.block(i, len(g.Blocks))
	}
	return g
}

func (k maker) block(at, count int) api.Block {
	b := api.Block{End: api.IJump + k.Intn(3)}
	for range k.Intn(4) * k.Intn(2) {
		b.Ops = append(b.Ops, k.op())
	}
	if b.End != api.IRet {
		b.To = k.target(at, count)
	}
	if b.End == api.IUnless {
		b.Else = k.target(at, count)
	}
	switch b.End {
	case api.IUnless:
		b.A = k.Intn(3)
	case api.IRet:
		b.A = -1 + k.Intn(4)
	}
	return b
}

// target: often the next block.
func (k maker) target(at, count int) int {
	if at+1 < count && k.Intn(3) == 0 {
		return at + 1
	}
	return k.Intn(count)
}

// op: one that the sample's programs have, with registers 0 to 2.
func (k maker) op() api.Op {
	switch k.Intn(5) {
	case 0:
		return api.Op{Code: api.ICharge}
	case 1:
		return api.Op{Code: api.IInt, D: k.Intn(3), K: k.Intn(3)}
	case 2:
		return api.Op{Code: api.IAdd, D: k.Intn(3), A: k.Intn(3), B: k.Intn(3)}
	case 3:
		return api.Op{Code: api.IText, D: k.Intn(3), K: k.Intn(2)}
	}
	return api.Op{Code: api.ICall, D: k.Intn(4) - 1, A: k.Intn(2), K: k.Intn(2)}
}

// spoil makes something of a graph another number, which may be taken or not.
func (k maker) spoil(g *api.Graph) {
	b := &g.Blocks[k.Intn(len(g.Blocks))]
	n := k.number(len(g.Blocks))
	switch k.Intn(8) {
	case 0:
		b.End = k.Intn(50) - 4
	case 1:
		b.A = n
	case 2:
		b.To = n
	case 3:
		b.Else = n
	case 4:
		g.Regs = n
	case 5:
		if len(b.Ops) > 0 {
			b.Ops[k.Intn(len(b.Ops))].Code = k.Intn(50) - 4
		}
	case 6:
		g.Blocks = g.Blocks[:k.Intn(len(g.Blocks)+1)]
	case 7:
		b.End = api.IJump + k.Intn(3)
	}
}

// number: one at or near the edges.
func (k maker) number(count int) int {
	near := append([]int{-2, -1, 0, 1, count - 1, count, count + 1, k.Intn(count + 1)}, great...)
	return near[k.Intn(len(near))]
}

// unit: of the sample's program; often one that is taken.
func (k maker) unit() api.Unit {
	u := sample()
	for i := range u.Funcs {
		u.Funcs[i] = k.graph(6)
	}
	for i := range u.Events {
		u.Events[i] = k.graph(6)
	}
	return u
}

// sample: two functions, three handlers, each of a block; no two alike.
func sample() api.Unit {
	number, text := api.Type{Kind: api.Int}, api.Type{Kind: api.Text}
	record := api.RecordType{Name: "Point", Fields: []string{"left", "name"}, Types: []api.Type{number, text}}
	table := api.MapType{Name: "table", Key: text, Value: api.Type{Kind: api.Record}}
	p := api.Program{
		Records: []api.RecordType{record},
		Maps:    []api.MapType{table, {Name: "other", Key: number, Value: number}},
		Funcs:   []api.Sig{{Name: "first", Params: []api.Type{number, text}, Result: number}, {Name: "second"}},
		Events:  []api.Sig{{Name: "begun", Params: []api.Type{text}}, {Name: "done"}, {Name: "gone", Params: []api.Type{number, number}}},
	}
	u := api.Unit{Program: p, Ints: []int64{0, math.MinInt64, 12}, Texts: []string{"some text", ""}}
	for i := range 2 {
		u.Funcs = append(u.Funcs, api.Graph{Regs: 3 + i, Blocks: []api.Block{ret(-1, charges(1+i)...)}})
	}
	for i := range 3 {
		u.Events = append(u.Events, api.Graph{Regs: 5 + i, Blocks: []api.Block{ret(-1, charges(3+i)...)}})
	}
	return u
}
