package flow_test

import (
	"math/rand"
	"slices"
	"testing"

	"windlass/api"
	"windlass/flow"
)

// Graphs and their rows, written out.
func TestRows(t *testing.T) {
	one, two, three := numbered(1), numbered(2), numbered(3)
	for _, c := range []struct {
		what   string
		blocks []api.Block
		want   []api.Op
	}{
		{"the chapter's example", []api.Block{jump(1), ret(-1)}, []api.Op{retOp(-1)}},
		{"a ret with a register", []api.Block{ret(5)}, []api.Op{retOp(5)}},
		{"a ret with register 0", []api.Block{ret(0, one)}, []api.Op{one, retOp(0)}},
		{"a jump to itself", []api.Block{jump(0)}, []api.Op{opTo(api.IJump, 0)}},
		{"a jump to itself, behind ops", []api.Block{jump(1, one), jump(1, two)}, []api.Op{one, two, opTo(api.IJump, 1)}},
		{"a jump to the next", []api.Block{jump(1, one), ret(0, two)}, []api.Op{one, two, retOp(0)}},
		{"a jump back", []api.Block{jump(1, one), jump(0, two)}, []api.Op{one, two, opTo(api.IJump, 0)}},
		{"a jump over a block", []api.Block{jump(2, one), ret(0, two), ret(1, three)}, []api.Op{one, opTo(api.IJump, 4), two, retOp(0), three, retOp(1)}},
		{"an unless, its else next", []api.Block{unless(4, 2, 1, one), ret(0, two), ret(1, three)}, []api.Op{one, unlessOp(4, 4), two, retOp(0), three, retOp(1)}},
		{"an unless, its to next", []api.Block{unless(4, 1, 2, one), ret(0, two), ret(1, three)}, []api.Op{one, unlessOp(4, 3), opTo(api.IJump, 5), two, retOp(0), three, retOp(1)}},
		{"an unless, both next", []api.Block{unless(3, 1, 1, one), ret(0)}, []api.Op{one, unlessOp(3, 2), retOp(0)}},
		{"an unless, both one block that isn't next", []api.Block{unless(3, 2, 2), ret(0), ret(1)}, []api.Op{unlessOp(3, 3), opTo(api.IJump, 3), retOp(0), retOp(1)}},
		{"an unless, both itself", []api.Block{unless(0, 0, 0)}, []api.Op{unlessOp(0, 0), opTo(api.IJump, 0)}},
		{"an unless, itself and the next", []api.Block{unless(2, 0, 1), ret(0)}, []api.Op{unlessOp(2, 0), retOp(0)}},
		{"an unless, the next and itself", []api.Block{unless(2, 1, 0), ret(0)}, []api.Op{unlessOp(2, 2), opTo(api.IJump, 0), retOp(0)}},
		{"an unless, last", []api.Block{jump(1, one), unless(6, 0, 1)}, []api.Op{one, unlessOp(6, 0), opTo(api.IJump, 1)}},
		{"empty blocks that a jump goes to", []api.Block{jump(2, one), ret(0), jump(3), jump(4), ret(1, two)}, []api.Op{one, opTo(api.IJump, 3), retOp(0), two, retOp(1)}},
		{"an empty block that a jump goes over", []api.Block{jump(2), jump(2), ret(0)}, []api.Op{opTo(api.IJump, 1), retOp(0)}},
		{"an empty block, gone to from behind", []api.Block{jump(1), jump(2), unless(0, 1, 0)}, []api.Op{unlessOp(0, 0), opTo(api.IJump, 0)}},
		{"an empty block whose jump isn't to the next", []api.Block{jump(2), ret(0), jump(1)}, []api.Op{opTo(api.IJump, 2), retOp(0), opTo(api.IJump, 1)}},
		{"blocks that aren't reached stay", []api.Block{ret(-1), jump(1, one), ret(2)}, []api.Op{retOp(-1), one, opTo(api.IJump, 1), retOp(2)}},
	} {
		f, err := flow.Fn(api.Graph{Regs: 9, Blocks: c.blocks})
		if err != api.OK || !sameFn(f, api.Fn{Regs: 9, Ops: c.want}) {
			t.Errorf("P10.1: %s: %v, %d; want %v", c.what, f, err, c.want)
		}
		wantGraph(t, api.Graph{Regs: 9, Blocks: c.blocks})
	}
}

// Registers aren't looked at, nor what the instructions are, but for the three.
func TestAsTheyAre(t *testing.T) {
	for _, regs := range append([]int{0, -1, 1, 64, 65}, great...) {
		f, err := flow.Fn(api.Graph{Regs: regs, Blocks: []api.Block{ret(-1)}})
		if err != api.OK || f.Regs != regs {
			t.Errorf("P10.1: Regs %d: %d, %d", regs, f.Regs, err)
		}
	}
	for _, code := range append([]int{-1, 0, 41, 42}, great...) {
		odd := api.Op{Code: code, D: -7, A: 1 << 40, B: -1 << 40, K: code}
		f, err := flow.Fn(graph(jump(1, odd, numbered(1), odd), ret(0, odd)))
		if err != api.OK || !slices.Equal(f.Ops, []api.Op{odd, numbered(1), odd, odd, retOp(0)}) {
			t.Errorf("P10.1: %v, %d", f.Ops, err)
		}
	}
}

// Each End with each number in each field, the other fields as they may be.
func TestFields(t *testing.T) {
	numbers := append([]int{-3, -2, -1, 0, 1, 2, 3, 4, 63, 64, 2000}, great...)
	taken := map[int]int{}
	for _, end := range []int{api.IJump, api.IUnless, api.IRet} {
		for _, at := range []int{0, 1, 2} {
			for _, n := range numbers {
				for field := range 3 {
					g := graph(jump(1), jump(2), ret(-1))
					b := api.Block{End: end}
					*[]*int{&b.A, &b.To, &b.Else}[field] = n
					g.Blocks[at] = b
					if wantGraph(t, g) {
						taken[end]++
					}
				}
			}
		}
	}
	// Each of three places: a jump's To 0, 1, 2 and its A and Else 0; an unless's To and Else 0, 1, 2 and its A from 0 on (eleven); a ret's A from -1 on and its To and Else 0.
	if taken[api.IJump] != 3*5 || taken[api.IUnless] != 3*17 || taken[api.IRet] != 3*14 {
		t.Errorf("P10.1: taken: %v", taken)
	}
}

// Only the three are Ends.
func TestEnds(t *testing.T) {
	for _, end := range append([]int{-40, -39, -38, -1, 0, 1, 35, 36, 37, 38, 39, 40, 41, 42, 64 + 38, 256 + 40}, great...) {
		want := end == api.IJump || end == api.IUnless || end == api.IRet
		for at := range 3 {
			g := graph(jump(0), jump(0), ret(-1))
			g.Blocks[at] = api.Block{End: end}
			if wantGraph(t, g) != want {
				t.Errorf("P10.1: End %d: taken %t", end, !want)
			}
		}
	}
}

// No block may have one of the three among its Ops, at whatever place.
func TestOps(t *testing.T) {
	for code := -1; code <= 42; code++ {
		for length := 1; length <= 4; length++ {
			for place := range length {
				for at := range 3 {
					g := graph(jump(1), unless(0, 0, 2), ret(-1))
					g.Blocks[at].Ops = charges(length)
					g.Blocks[at].Ops[place] = op(code)
					want := code != api.IJump && code != api.IUnless && code != api.IRet
					if wantGraph(t, g) != want {
						t.Errorf("P10.1: op %d at %d of %d: taken %t", code, place, length, !want)
					}
				}
			}
		}
	}
}

// From no block to MaxOps blocks and one more.
func TestCounts(t *testing.T) {
	chain := func(count int) api.Graph {
		g := graph(slices.Repeat([]api.Block{ret(-1)}, count)...)
		for i := range max(count-1, 0) {
			g.Blocks[i] = jump(i + 1)
		}
		return g
	}
	for _, c := range []struct {
		count int
		want  bool
	}{{0, false}, {1, true}, {2, true}, {api.MaxOps - 1, true}, {api.MaxOps, true}, {api.MaxOps + 1, false}, {3 * api.MaxOps, false}} {
		f, err := flow.Fn(chain(c.count))
		met, errMet := flow.Reached(chain(c.count))
		if err != errorIf(c.want) || errMet != err {
			t.Errorf("P10.1: %d blocks: %d, %d", c.count, err, errMet)
		}
		if c.want && (len(f.Ops) != 1 || len(met) != c.count || slices.Contains(met, false)) {
			t.Errorf("P10.1: %d blocks: %v, %d met", c.count, f.Ops, len(met))
		}
		if !c.want && (f.Regs != 0 || len(f.Ops) != 0 || len(met) != 0) {
			t.Errorf("P10.1: %d blocks: something beside the error", c.count)
		}
	}
	// What jumps to the last block isn't refused for its number.
	g := chain(api.MaxOps)
	g.Blocks[0] = jump(api.MaxOps-1, numbered(1))
	f, err := flow.Fn(g)
	if err != api.OK || !slices.Equal(f.Ops, []api.Op{numbered(1), opTo(api.IJump, 2), retOp(-1)}) {
		t.Errorf("P10.1: %v, %d", f.Ops, err)
	}
}

// A graph's row isn't refused for its length: Flatten does that.
func TestLongRows(t *testing.T) {
	f, err := flow.Fn(graph(jump(1, charges(5000)...), jump(0, charges(3000)...)))
	if err != api.OK || len(f.Ops) != 8001 || f.Ops[8000] != opTo(api.IJump, 0) {
		t.Errorf("P10.1: %d instructions, %d", len(f.Ops), err)
	}
}

// Every graph of up to three blocks, with each End and each place to go to, one behind the last and one ahead of the first with them; with and without Ops.
func TestSmallGraphs(t *testing.T) {
	for count := 1; count <= 3; count++ {
		var choices []api.Block
		for _, ops := range [][]api.Op{nil, {numbered(8), numbered(9)}} {
			choices = append(choices, ret(-1, ops...), ret(2, ops...), ret(-2, ops...))
			for to := -1; to <= count; to++ {
				choices = append(choices, jump(to, ops...))
				for other := -1; other <= count; other++ {
					choices = append(choices, unless(1, to, other, ops...))
				}
			}
		}
		g := graph(make([]api.Block, count)...)
		all := 1
		for range count {
			all *= len(choices)
		}
		for n := range all {
			for i := range g.Blocks {
				g.Blocks[i] = choices[n%len(choices)]
				n /= len(choices)
			}
			wantGraph(t, g)
		}
	}
}

// Graphs by chance, as they are and spoilt.
func TestGraphsByChance(t *testing.T) {
	k := maker{rand.New(rand.NewSource(101))}
	taken := 0
	for range 20000 {
		g := k.graph(12)
		if !wantGraph(t, g) {
			t.Errorf("%v: no graph that is taken", g)
		}
		for range 1 + k.Intn(2) {
			if len(g.Blocks) > 0 {
				k.spoil(&g)
			}
		}
		if wantGraph(t, g) {
			taken++
		}
	}
	if taken < 2000 || taken > 18000 {
		t.Errorf("%d of 20000 are taken", taken)
	}
}
