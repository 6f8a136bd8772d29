package flow_test

import (
	"math/rand"
	"slices"
	"strings"
	"testing"

	"windlass/api"
	"windlass/code"
	"windlass/flow"
)

// A unit of functions and handlers: its code, written out.
func TestFlatten(t *testing.T) {
	u := sample()
	c, err := flow.Flatten(u)
	if err != api.OK || !flow.Is(u) {
		t.Fatalf("P10.1: %d", err)
	}
	end := retOp(-1)
	want := api.Code{Program: u.Program, Ints: u.Ints, Texts: u.Texts}
	want.Funcs = []api.Fn{{Regs: 3, Ops: append(charges(1), end)}, {Regs: 4, Ops: append(charges(2), end)}}
	want.Events = []api.Fn{{Regs: 5, Ops: append(charges(3), end)}, {Regs: 6, Ops: append(charges(4), end)}, {Regs: 7, Ops: append(charges(5), end)}}
	if !code.Same(c, want) {
		t.Errorf("P10.1: %v; want %v", c, want)
	}
	wantUnit(t, "the sample", u)
	if !wantUnit(t, "nothing", api.Unit{}) {
		t.Error("P10.1: a unit of nothing is refused")
	}
	if !wantUnit(t, "lists without anything", api.Unit{Ints: []int64{}, Texts: []string{}, Funcs: []api.Graph{}, Events: []api.Graph{}}) {
		t.Error("P10.1: a unit of empty lists is refused")
	}
}

// One graph that Fn refuses, at each place.
func TestFlattenOfARefusedGraph(t *testing.T) {
	for what, blocks := range map[string][]api.Block{
		"no block":             nil,
		"an End that is none":  {{}},
		"a To that is none":    {jump(1)},
		"an Else that is none": {unless(0, 0, 1)},
		"a field too many":     {{End: api.IRet, To: 1}, ret(-1)},
		"an A below":           {ret(-2)},
		"a jump among the Ops": {ret(-1, opTo(api.IJump, 0))},
		"too many blocks":      slices.Repeat([]api.Block{ret(-1)}, api.MaxOps+1),
	} {
		for at := range 5 {
			u := sample()
			graphOf(&u, at).Blocks = blocks
			c, err := flow.Flatten(u)
			if err != api.ErrFlowForm || flow.Is(u) || !code.Same(c, api.Code{}) {
				t.Errorf("P10.1: %s at %d: %v, %d", what, at, c, err)
			}
		}
	}
}

// A refused graph is refused where the program has no such function at all, too.
func TestFlattenOfARefusedGraphTooMany(t *testing.T) {
	for _, g := range []api.Graph{{}, graph(jump(1)), graph(ret(-1), ret(-2))} {
		for what, u := range map[string]api.Unit{
			"a function":        {Funcs: []api.Graph{g}},
			"a handler":         {Events: []api.Graph{g}},
			"one of each":       {Funcs: []api.Graph{g}, Events: []api.Graph{g}},
			"behind a good one": {Funcs: []api.Graph{graph(ret(-1)), g}},
		} {
			if wantUnit(t, what, u) {
				t.Errorf("P10.1: %s: taken", what)
			}
		}
	}
}

// graphOf: functions, then handlers.
func graphOf(u *api.Unit, at int) *api.Graph {
	if at < len(u.Funcs) {
		return &u.Funcs[at]
	}
	return &u.Events[at-len(u.Funcs)]
}

// Codes that code.Is refuses, and their neighbours that it takes.
func TestFlattenOfWhatIsNoCode(t *testing.T) {
	for _, c := range []struct {
		what   string
		change func(u *api.Unit)
		want   bool
	}{
		{"as many Ops as may be", func(u *api.Unit) { u.Funcs[1].Blocks[0].Ops = charges(api.MaxOps - 1) }, true},
		{"one Op more", func(u *api.Unit) { u.Funcs[1].Blocks[0].Ops = charges(api.MaxOps) }, false},
		{"as many in two blocks", func(u *api.Unit) {
			u.Events[0].Blocks = []api.Block{jump(1, charges(1000)...), ret(-1, charges(999)...)}
		}, true},
		{"one more in two blocks", func(u *api.Unit) {
			u.Events[0].Blocks = []api.Block{jump(1, charges(1000)...), ret(-1, charges(1000)...)}
		}, false},
		{"a jump too many", func(u *api.Unit) {
			u.Events[0].Blocks = []api.Block{jump(0, charges(1000)...), ret(-1, charges(999)...)}
		}, false},
		{"as many registers as may be", func(u *api.Unit) { u.Events[2].Regs = api.MaxRegs }, true},
		{"one more register", func(u *api.Unit) { u.Events[2].Regs = api.MaxRegs + 1 }, false},
		{"registers of the params alone", func(u *api.Unit) { u.Funcs[0].Regs = 2 }, true},
		{"fewer registers than params", func(u *api.Unit) { u.Funcs[0].Regs = 1 }, false},
		{"registers below 0", func(u *api.Unit) { u.Funcs[1].Regs = -1 }, false},
		{"the last register of an Op", func(u *api.Unit) { u.Events[0].Blocks[0].Ops[0] = api.Op{Code: api.IMove, D: 4, A: 4} }, true},
		{"a register beyond", func(u *api.Unit) { u.Events[0].Blocks[0].Ops[0] = api.Op{Code: api.IMove, D: 5, A: 4} }, false},
		{"the last register of an unless", func(u *api.Unit) { u.Events[0].Blocks[0] = unless(4, 0, 0) }, true},
		{"one beyond of an unless", func(u *api.Unit) { u.Events[0].Blocks[0] = unless(5, 0, 0) }, false},
		{"the last register of a ret", func(u *api.Unit) { u.Funcs[0].Blocks[0] = ret(2) }, true},
		{"one beyond of a ret", func(u *api.Unit) { u.Funcs[0].Blocks[0] = ret(3) }, false},
		{"a constant that is there", func(u *api.Unit) { u.Events[1].Blocks[0].Ops[0] = numbered(2) }, true},
		{"a constant that isn't there", func(u *api.Unit) { u.Events[1].Blocks[0].Ops[0] = numbered(3) }, false},
		{"a Code that is none", func(u *api.Unit) { u.Events[1].Blocks[0].Ops[0] = op(41) }, false},
		{"a field that an Op hasn't", func(u *api.Unit) { u.Events[1].Blocks[0].Ops[0].K = 1 }, false},
		{"a function too few", func(u *api.Unit) { u.Funcs = u.Funcs[:1] }, false},
		{"a function too many", func(u *api.Unit) { u.Funcs = append(u.Funcs, u.Funcs[1]) }, false},
		{"a handler too few", func(u *api.Unit) { u.Events = u.Events[:2] }, false},
		{"a handler too many", func(u *api.Unit) { u.Events = append(u.Events, u.Events[2]) }, false},
		{"no functions", func(u *api.Unit) { u.Funcs = nil }, false},
		{"a handler among the functions", func(u *api.Unit) { u.Funcs, u.Events = append(u.Funcs, u.Events[2]), u.Events[:2] }, false},
		{"a program with a function's name twice", func(u *api.Unit) { u.Program.Funcs[1].Name = "first" }, false},
		{"a program with an empty name", func(u *api.Unit) { u.Program.Funcs[1].Name = "" }, false},
		{"a text as long as may be", func(u *api.Unit) { u.Texts[0] = strings.Repeat("x", api.MaxText) }, true},
		{"a text that is too long", func(u *api.Unit) { u.Texts[0] = strings.Repeat("x", api.MaxText+1) }, false},
		{"as many constants as may be", func(u *api.Unit) { u.Ints, u.Texts = make([]int64, 1000), make([]string, 1000) }, true},
		{"too many integers", func(u *api.Unit) { u.Ints = make([]int64, 1001) }, false},
		{"too many texts", func(u *api.Unit) { u.Texts = make([]string, 1001) }, false},
	} {
		u := sample()
		c.change(&u)
		if wantUnit(t, c.what, u) != c.want {
			t.Errorf("P10.1: %s: taken %t", c.what, !c.want)
		}
	}
}

// Units by chance, as they are, with a graph spoilt, with constants, functions or handlers more or fewer.
func TestUnitsByChance(t *testing.T) {
	k := maker{rand.New(rand.NewSource(104))}
	taken := 0
	for range 5000 {
		u := k.unit()
		if !wantUnit(t, "by chance", u) {
			t.Errorf("%v is refused", u)
		}
		switch k.Intn(6) {
		case 0:
			u.Ints = u.Ints[:k.Intn(4)]
		case 1:
			u.Funcs = u.Funcs[:k.Intn(3)]
		case 2:
			u.Events = append(u.Events, k.graph(3))[:2+k.Intn(3)]
		default:
			k.spoil(graphOf(&u, k.Intn(5)))
		}
		if wantUnit(t, "spoilt", u) {
			taken++
		}
	}
	if taken < 500 || taken > 4500 {
		t.Errorf("%d of 5000 are taken", taken)
	}
}
