package flow_test

import (
	"math/rand"
	"slices"
	"strings"
	"testing"

	"windlass/api"
	"windlass/flow"
)

// told: what is reached as text: # is.
func told(met []bool) string {
	var out strings.Builder
	for _, m := range met {
		out.WriteByte(".#"[map[bool]int{true: 1}[m]])
	}
	return out.String()
}

func TestReached(t *testing.T) {
	for _, c := range []struct {
		what   string
		blocks []api.Block
		want   string
	}{
		{"one block", []api.Block{ret(-1)}, "#"},
		{"one block, a ring", []api.Block{jump(0)}, "#"},
		{"nothing behind a ret", []api.Block{ret(-1), ret(-1)}, "#."},
		{"a ring of all", []api.Block{jump(2), jump(0), jump(1)}, "###"},
		{"a ring that isn't reached", []api.Block{ret(0), jump(2), jump(1)}, "#.."},
		{"a ring that goes to the first", []api.Block{jump(0), jump(2), unless(0, 1, 0)}, "#.."},
		{"blocks that only blocks that aren't reached go to", []api.Block{jump(4), jump(2), unless(0, 3, 4), ret(0), ret(-1)}, "#...#"},
		{"by To alone", []api.Block{unless(0, 2, 0), ret(0), ret(0)}, "#.#"},
		{"by Else alone", []api.Block{unless(0, 0, 2), ret(0), ret(0)}, "#.#"},
		{"by both", []api.Block{unless(0, 2, 1), ret(0), ret(0)}, "###"},
		{"To of a ret is no way", []api.Block{jump(1), ret(0), ret(0)}, "##."},
		{"Else of a jump is no way", []api.Block{unless(0, 1, 1), jump(1), ret(0)}, "##."},
		{"the next block isn't gone to by itself", []api.Block{jump(2, numbered(1)), ret(0), ret(0)}, "#.#"},
	} {
		met, err := flow.Reached(graph(c.blocks...))
		if err != api.OK || told(met) != c.want {
			t.Errorf("P10.2: %s: %s, %d; want %s", c.what, told(met), err, c.want)
		}
	}
}

// Rows of as many blocks as may be, gone through in both orders and in leaps; a tree of them.
func TestReachedOfGreatRows(t *testing.T) {
	n := api.MaxOps
	forward, backward, leaps, fork := make([]api.Block, n), make([]api.Block, n), make([]api.Block, n), make([]api.Block, n)
	for i := range n {
		forward[i] = jump(min(i+1, n-1))
		backward[i] = jump((i + n - 1) % n)
		leaps[i] = jump((i + 7) % n)
		fork[i] = unless(0, min(2*i+1, n-1), min(2*i+2, n-1))
	}
	for what, blocks := range map[string][]api.Block{"forward": forward, "backward": backward, "leaps": leaps, "fork": fork} {
		met, err := flow.Reached(graph(blocks...))
		if err != api.OK || len(met) != n || slices.Contains(met, false) {
			t.Errorf("P10.2: %s: not all are reached: %d", what, err)
		}
	}
	forward[n/2] = ret(-1)
	met, err := flow.Reached(graph(forward...))
	if want := strings.Repeat("#", n/2+1) + strings.Repeat(".", n/2-1); err != api.OK || told(met) != want {
		t.Errorf("P10.2: a row with a ret in the middle: %d", err)
	}
}

func TestSteps(t *testing.T) {
	charge, end := op(api.ICharge), retOp(-1)
	to := func(k int) api.Op { return opTo(api.IJump, k) }
	for _, c := range []struct {
		what string
		ops  []api.Op
		want string
	}{
		{"one instruction", []api.Op{end}, "#"},
		{"a last one that goes on", []api.Op{charge}, "#"},
		{"a row that goes on", []api.Op{charge, charge, charge}, "###"},
		{"behind a ret", []api.Op{charge, end, charge}, "##."},
		{"behind a jump", []api.Op{to(2), charge, end}, "#.#"},
		{"a jump to the first", []api.Op{charge, to(0), charge}, "##."},
		{"a jump to itself", []api.Op{to(0), charge}, "#."},
		{"a jump to the last", []api.Op{to(3), charge, charge, charge}, "#..#"},
		{"an unless goes both ways", []api.Op{unlessOp(0, 3), charge, end, charge}, "####"},
		{"an unless to the last, behind it a jump", []api.Op{unlessOp(0, 3), to(0), charge, charge}, "##.#"},
		{"an unless, last", []api.Op{charge, unlessOp(0, 0)}, "##"},
		{"an unless to the next", []api.Op{unlessOp(0, 1), end, charge}, "##."},
		{"a jump that isn't reached goes nowhere", []api.Op{end, to(3), charge, charge}, "#..."},
		{"a way through what isn't reached at first", []api.Op{to(3), charge, end, to(1)}, "####"},
		{"the K of others is no way", []api.Op{{Code: api.IInt, K: 2}, end, charge}, "##."},
		{"the K of a ret is no way", []api.Op{{Code: api.IRet, K: 1}, charge}, "#."},
		{"Codes that are none go on", []api.Op{op(0), op(-1), op(41), op(99), end, op(0)}, "#####."},
		{"the K of Codes that are none isn't looked at", []api.Op{opTo(0, 99), opTo(41, -3), end}, "###"},
		{"the K of others isn't looked at", []api.Op{opTo(api.IRet, 99), opTo(api.ICall, -1)}, "#."},
	} {
		met, err := flow.Steps(function(c.ops...))
		if err != api.OK || told(met) != c.want {
			t.Errorf("P10.2: %s: %s, %d; want %s", c.what, told(met), err, c.want)
		}
	}
}

// A jump to no instruction is refused, whether it is reached or not.
func TestStepsRefused(t *testing.T) {
	if met, err := flow.Steps(api.Fn{Regs: 3}); err != api.ErrFlowForm || len(met) != 0 {
		t.Errorf("P10.2: no Ops: %v, %d", met, err)
	}
	if met, err := flow.Steps(api.Fn{Ops: []api.Op{}}); err != api.ErrFlowForm || len(met) != 0 {
		t.Errorf("P10.2: no Ops: %v, %d", met, err)
	}
	for _, code := range []int{api.IJump, api.IUnless} {
		for place := range 4 {
			for _, k := range append([]int{-2, -1, 0, 1, 2, 3, 4, 5, 2000}, great...) {
				ops := []api.Op{op(api.ICharge), retOp(-1), op(api.ICharge), retOp(-1)}
				ops[place] = opTo(code, k)
				if want := 0 <= k && k < 4; wantSteps(t, function(ops...)) != want {
					t.Errorf("P10.2: a jump %d at %d to %d: taken %t", code, place, k, !want)
				}
			}
		}
	}
}

// Registers, and fields beside K, aren't looked at; nor is how many instructions there are.
func TestStepsOfAll(t *testing.T) {
	for _, n := range great {
		f := api.Fn{Regs: n, Ops: []api.Op{{Code: api.IUnless, D: n, A: n, B: n, K: 1}, {Code: api.IRet, D: n, A: n, B: n, K: n}}}
		if met, err := flow.Steps(f); err != api.OK || told(met) != "##" {
			t.Errorf("P10.2: %v: %s, %d", f, told(met), err)
		}
	}
	n := 300000
	forward, backward := charges(n), charges(n)
	for i := range n {
		backward[i] = opTo(api.IJump, (i+n-1)%n)
	}
	for what, ops := range map[string][]api.Op{"forward": forward, "backward": backward} {
		met, err := flow.Steps(function(ops...))
		if err != api.OK || len(met) != n || slices.Contains(met, false) {
			t.Errorf("P10.2: %s: not all are reached: %d", what, err)
		}
	}
}

// Every function of up to four instructions of each sort, its jumps to each place, one behind the last and one ahead of the first with them.
func TestSmallSteps(t *testing.T) {
	for count := 1; count <= 4; count++ {
		choices := []api.Op{op(api.ICharge), retOp(-1), op(0)}
		for k := -1; k <= count; k++ {
			choices = append(choices, opTo(api.IJump, k), unlessOp(2, k))
		}
		f := function(make([]api.Op, count)...)
		all := 1
		for range count {
			all *= len(choices)
		}
		for n := range all {
			for i := range f.Ops {
				f.Ops[i] = choices[n%len(choices)]
				n /= len(choices)
			}
			wantSteps(t, f)
		}
	}
}

// Functions by chance; and the rows of graphs: what is laid of a block that is reached is reached, of the others nothing.
func TestStepsByChance(t *testing.T) {
	k := maker{rand.New(rand.NewSource(102))}
	for range 20000 {
		f := api.Fn{Regs: k.Intn(9), Ops: charges(1 + k.Intn(14))}
		for i := range f.Ops {
			if k.Intn(2) == 0 {
				f.Ops[i] = opTo(api.IJump+k.Intn(3), k.Intn(len(f.Ops)))
			}
		}
		wantSteps(t, f)
		f.Ops[k.Intn(len(f.Ops))] = opTo(api.IJump+k.Intn(3), k.number(len(f.Ops)))
		wantSteps(t, f)
	}
}

func TestStepsOfGraphs(t *testing.T) {
	k := maker{rand.New(rand.NewSource(103))}
	for range 5000 {
		g := k.graph(10)
		f, _ := flow.Fn(g)
		blocks, _ := flow.Reached(g)
		steps, err := flow.Steps(f)
		var want []bool
		for i, n := range lengths(g) {
			want = append(want, slices.Repeat([]bool{blocks[i]}, n)...)
		}
		if err != api.OK || !slices.Equal(steps, want) {
			t.Errorf("%v: %s, %d; want %s", g, told(steps), err, told(want))
		}
	}
}
