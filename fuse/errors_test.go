package fuse_test

import (
	"math"
	"slices"
	"strings"
	"testing"

	"windlass/api"
	"windlass/flow"
	"windlass/fuse"
	"windlass/verify"
)

// wantRefused: that a unit is refused, with nothing beside the error.
func wantRefused(t *testing.T, what string, u api.Unit) {
	t.Helper()
	v, err := fuse.Pass(u)
	if err != api.ErrFlowForm {
		t.Errorf("P17.1: %s: %d", what, err)
	}
	if shown(v) != shown(api.Unit{}) {
		t.Errorf("P17.1: %s: something beside an error", what)
	}
}

// plain: a unit that is taken, with what is read twice in each block.
func plain() api.Unit {
	var s sheet
	return s.unit(
		unless(2, 1, 2, charged(s.num(3, 2), op(api.IStr, 4, 3), get(5, 3, numbers), get(6, 3, numbers))...),
		jump(2, get(5, 1, texts), get(5, 1, texts)), ret(-1, charged(get(6, 0, pairs), s.num(3, 4), get(7, 0, pairs))...))
}

// P17.1: blocks that can't be.
func TestNoUnit(t *testing.T) {
	passed(t, plain())
	for _, w := range []struct {
		what  string
		spoil func(u *api.Unit, g *api.Graph, b *api.Block)
	}{
		{"no blocks", func(u *api.Unit, g *api.Graph, b *api.Block) { g.Blocks = nil }},
		{"a graph less", func(u *api.Unit, g *api.Graph, b *api.Block) { u.Events = u.Events[:eventCount-1] }},
		{"a graph more", func(u *api.Unit, g *api.Graph, b *api.Block) { u.Funcs = append(u.Funcs, u.Funcs[0]) }},
		{"no end", func(u *api.Unit, g *api.Graph, b *api.Block) { b.End = 0 }},
		{"another end", func(u *api.Unit, g *api.Graph, b *api.Block) { b.End = api.ICharge }},
		{"To far out", func(u *api.Unit, g *api.Graph, b *api.Block) { b.To = 3 }},
		{"To below 0", func(u *api.Unit, g *api.Graph, b *api.Block) { b.To = -1 }},
		{"Else far out", func(u *api.Unit, g *api.Graph, b *api.Block) { b.Else = math.MaxInt }},
		{"Else of a jump", func(u *api.Unit, g *api.Graph, b *api.Block) { g.Blocks[1].Else = 1 }},
		{"A of a jump", func(u *api.Unit, g *api.Graph, b *api.Block) { g.Blocks[1].A = 1 }},
		{"To of an end", func(u *api.Unit, g *api.Graph, b *api.Block) { g.Blocks[2].To = 1 }},
		{"A below -1", func(u *api.Unit, g *api.Graph, b *api.Block) { g.Blocks[2].A = -2 }},
		{"A of IUnless", func(u *api.Unit, g *api.Graph, b *api.Block) { b.A = -1 }},
		{"a jump within", func(u *api.Unit, g *api.Graph, b *api.Block) { b.Ops = append(b.Ops, op(api.IJump)) }},
		{"an end within", func(u *api.Unit, g *api.Graph, b *api.Block) { b.Ops = append(b.Ops, op(api.IRet, 0, -1)) }},
		{"no instruction", func(u *api.Unit, g *api.Graph, b *api.Block) { b.Ops[1].Code = 0 }},
		{"an instruction beyond", func(u *api.Unit, g *api.Graph, b *api.Block) { b.Ops[1].Code = api.IRet + 1 }},
		{"a field that isn't there", func(u *api.Unit, g *api.Graph, b *api.Block) { b.Ops[1].A = 1 }},
		{"a register beyond", func(u *api.Unit, g *api.Graph, b *api.Block) { b.Ops[2].D = regs }},
		{"a register below 0", func(u *api.Unit, g *api.Graph, b *api.Block) { b.Ops[2].A = -1 }},
		{"no constant", func(u *api.Unit, g *api.Graph, b *api.Block) { b.Ops[1].K = len(u.Ints) }},
		{"no text", func(u *api.Unit, g *api.Graph, b *api.Block) { b.Ops[1] = op(api.IText, 3, 0, 0, len(u.Texts)) }},
		{"no port", func(u *api.Unit, g *api.Graph, b *api.Block) { b.Ops[1] = op(api.IAsk, 3, 1, 0, len(u.Texts)) }},
		{"no map", func(u *api.Unit, g *api.Graph, b *api.Block) { b.Ops[4].K = mapCount }},
		{"a map below 0", func(u *api.Unit, g *api.Graph, b *api.Block) { b.Ops[4].K = -1 }},
		{"a key's register beyond", func(u *api.Unit, g *api.Graph, b *api.Block) { b.Ops[4].A = regs }},
		{"a key's register below 0", func(u *api.Unit, g *api.Graph, b *api.Block) { b.Ops[4].A = -1 }},
		{"a read's register beyond", func(u *api.Unit, g *api.Graph, b *api.Block) { b.Ops[4].D = regs }},
		{"a read's register below 0", func(u *api.Unit, g *api.Graph, b *api.Block) { b.Ops[4].D = -1 }},
		{"a read with B", func(u *api.Unit, g *api.Graph, b *api.Block) { b.Ops[4].B = 1 }},
		{"a read that would go, with B", func(u *api.Unit, g *api.Graph, b *api.Block) { g.Blocks[1].Ops[1].B = 1 }},
		{"no truth", func(u *api.Unit, g *api.Graph, b *api.Block) { b.Ops[1] = be(3, 2) }},
		{"no registers", func(u *api.Unit, g *api.Graph, b *api.Block) { g.Regs = 0 }},
		{"registers below 0", func(u *api.Unit, g *api.Graph, b *api.Block) { g.Regs = math.MinInt }},
		{"registers too many", func(u *api.Unit, g *api.Graph, b *api.Block) { g.Regs = api.MaxRegs + 1 }},
		{"instructions too many", func(u *api.Unit, g *api.Graph, b *api.Block) {
			b.Ops = slices.Concat(b.Ops, slices.Repeat([]api.Op{op(api.ICharge)}, 2000))
		}},
		{"blocks too many", func(u *api.Unit, g *api.Graph, b *api.Block) {
			g.Blocks = slices.Concat(g.Blocks, slices.Repeat([]api.Block{ret(-1)}, 2000))
		}},
		{"integers too many", func(u *api.Unit, g *api.Graph, b *api.Block) { u.Ints = make([]int64, 1001) }},
		{"texts too many", func(u *api.Unit, g *api.Graph, b *api.Block) { u.Texts = make([]string, 1001) }},
		{"a text too long", func(u *api.Unit, g *api.Graph, b *api.Block) { u.Texts[0] = strings.Repeat("x", 65) }},
		{"no name", func(u *api.Unit, g *api.Graph, b *api.Block) { u.Program.Events[1].Name = "" }},
		{"a name twice", func(u *api.Unit, g *api.Graph, b *api.Block) { u.Program.Maps[1].Name = "numbers" }},
		{"a type that isn't there", func(u *api.Unit, g *api.Graph, b *api.Block) { u.Program.Maps[2].Value.Rec = 3 }},
	} {
		u := plain()
		w.spoil(&u, &u.Events[onE], &u.Events[onE].Blocks[0])
		if flow.Is(u) {
			t.Fatalf("%s: the test's own unit is taken", w.what)
		}
		wantRefused(t, w.what, u)
	}
}

// P17.1: code that verify.Check refuses, whatever its error is, and in which function.
func TestNoCode(t *testing.T) {
	for _, w := range []struct {
		what  string
		err   api.Errno
		spoil func(g *api.Graph)
	}{
		{"no charge", api.ErrVerifyShape, func(g *api.Graph) { g.Blocks[0].Ops = g.Blocks[0].Ops[1:] }},
		{"a charge that comes later", api.ErrVerifyShape, func(g *api.Graph) { g.Blocks[0].Ops = slices.Insert(g.Blocks[0].Ops, 0, be(g.Regs-1, 0)) }},
		{"round without a charge", api.ErrVerifyJump, func(g *api.Graph) {
			g.Blocks = []api.Block{jump(1, charged()...), jump(1, be(g.Regs-1, 0))}
		}},
		{"round without a charge, not reached", api.ErrVerifyJump, func(g *api.Graph) { g.Blocks = append(g.Blocks, jump(len(g.Blocks), be(g.Regs-1, 0))) }},
		{"entered", api.ErrVerifyHeight, func(g *api.Graph) { g.Blocks[0].Ops = append(g.Blocks[0].Ops, op(api.IEnter)) }},
		{"left", api.ErrVerifyHeight, func(g *api.Graph) { g.Blocks[0].Ops = append(g.Blocks[0].Ops, op(api.ILeave)) }},
		{"too high", api.ErrVerifyHeight, func(g *api.Graph) {
			g.Blocks[0].Ops = slices.Concat(g.Blocks[0].Ops, slices.Repeat([]api.Op{op(api.IEnter)}, 13), slices.Repeat([]api.Op{op(api.ILeave)}, 13))
		}},
		{"without a value", api.ErrVerifyType, func(g *api.Graph) {
			g.Regs++
			g.Blocks[0].Ops = append(g.Blocks[0].Ops, move(0, g.Regs-1))
		}},
		{"of another type", api.ErrVerifyType, func(g *api.Graph) { g.Blocks[0].Ops = append(g.Blocks[0].Ops, be(0, 0), op(api.INeg, 0, 0)) }},
		{"of types that are unlike", api.ErrVerifyType, func(g *api.Graph) {
			g.Regs = max(g.Regs, 2)
			g.Blocks[0].Ops = append(g.Blocks[0].Ops, be(0, 0), op(api.IMake, 1, 0, 0, 0))
		}},
		{"with an end that doesn't fit", api.ErrVerifyType, func(g *api.Graph) { g.Blocks = []api.Block{ret(0, charged(be(0, 1), op(api.IMake, 0, 0, 0, 2))...)} }},
		{"of another type, not wanted", api.ErrVerifyType, func(g *api.Graph) {
			g.Regs++
			g.Blocks[0].Ops = append(g.Blocks[0].Ops, be(g.Regs-1, 0), op(api.IStr, g.Regs-1, g.Regs-1))
		}},
		{"a read with another type", api.ErrVerifyType, func(g *api.Graph) {
			g.Regs++
			g.Blocks[0].Ops = append(g.Blocks[0].Ops, be(g.Regs-1, 0), get(g.Regs-1, g.Regs-1, numbers))
		}},
		{"a read twice, with a value that isn't there", api.ErrVerifyType, func(g *api.Graph) {
			g.Regs += 2
			g.Blocks[0].Ops = append(g.Blocks[0].Ops, get(g.Regs-2, g.Regs-1, numbers), get(g.Regs-2, g.Regs-1, numbers))
		}},
		{"a read twice, the second time of another type", api.ErrVerifyType, func(g *api.Graph) {
			g.Regs += 2
			g.Blocks[0].Ops = append(g.Blocks[0].Ops, op(api.IText, g.Regs-1), get(g.Regs-2, g.Regs-1, texts), be(g.Regs-1, 0), get(g.Regs-2, g.Regs-1, texts))
		}},
		{"in a block to which no way comes in the end", api.ErrVerifyHeight, func(g *api.Graph) {
			g.Regs++
			g.Blocks = []api.Block{unless(g.Regs-1, 1, 2, charged(be(g.Regs-1, 0))...), jump(1, charged()...), jump(1, op(api.IEnter))}
		}},
	} {
		for fn := range fnCount + eventCount {
			u := plain()
			for i := range u.Funcs {
				u.Funcs[i].Regs++
			}
			for i := range u.Events {
				u.Events[i].Regs++
			}
			g := &u.Events[max(0, fn-fnCount)]
			if fn < fnCount {
				g = &u.Funcs[fn]
			}
			w.spoil(g)
			c, err := flow.Flatten(u)
			if err != api.OK {
				t.Fatalf("%s: the test's own unit is none", w.what)
			}
			if at, err := verify.Check(c); err != w.err || at != fn {
				t.Fatalf("%s: the test's own unit: %d in %d, want %d in %d", w.what, err, at, w.err, fn)
			}
			wantRefused(t, w.what, u)
		}
	}
}

// P17.1: a unit without anything is one.
func TestNothing(t *testing.T) {
	for _, u := range []api.Unit{{}, {Ints: []int64{}, Texts: []string{}, Funcs: []api.Graph{}, Events: []api.Graph{}}, {Ints: []int64{1, 1}, Texts: []string{"a"}}} {
		if v := passed(t, u); shown(v) != shown(u) {
			t.Errorf("P17.1: %s", shown(v))
		}
	}
}
