package dead_test

import (
	"fmt"
	"slices"
	"testing"

	"windlass/api"
)

// emit: a handler's block tells that one came to it.
func (s *sheet) emit(x string) []api.Op { return []api.Op{s.text(20, x), op(api.IEmit, 0, 20)} }

// P15.2: blocks to which no way comes go; the others keep their order, and go where they went.
func TestBlocksThatAreNotReached(t *testing.T) {
	var s sheet
	a, b, c := s.emit("a"), s.emit("b"), s.emit("c")
	for _, w := range []struct {
		what      string
		was, want []api.Block
	}{
		{"one", []api.Block{ret(-1, charged(a...)...)}, []api.Block{ret(-1, charged(a...)...)}},
		{"the last", []api.Block{ret(-1, charged(a...)...), ret(-1, b...)}, []api.Block{ret(-1, charged(a...)...)}},
		{"one between", []api.Block{jump(2, charged(a...)...), ret(-1, b...), ret(-1, c...)}, []api.Block{jump(1, charged(a...)...), ret(-1, c...)}},
		{"all but the first", append([]api.Block{ret(-1, charged(a...)...)}, slices.Repeat([]api.Block{ret(-1, b...)}, 300)...), []api.Block{ret(-1, charged(a...)...)}},
		{"one that goes to others", []api.Block{jump(2, charged(a...)...), unless(2, 2, 3, b...), jump(3, c...), ret(-1)}, []api.Block{jump(1, charged(a...)...), jump(2, c...), ret(-1)}},
		{"one that goes back", []api.Block{ret(-1, charged(a...)...), jump(0, b...)}, []api.Block{ret(-1, charged(a...)...)}},
		{"some that go round", []api.Block{ret(-1, charged(a...)...), jump(2, charged(b...)...), jump(1, c...)}, []api.Block{ret(-1, charged(a...)...)}},
		{"one that goes to itself", []api.Block{jump(2, charged(a...)...), jump(1, charged(b...)...), ret(-1, c...)}, []api.Block{jump(1, charged(a...)...), ret(-1, c...)}},
		{"one that is reached by such a one", []api.Block{jump(3, charged(a...)...), jump(2), jump(3, b...), ret(-1, c...)}, []api.Block{jump(1, charged(a...)...), ret(-1, c...)}},
		{
			"some among many", []api.Block{unless(2, 2, 5, charged(a...)...), ret(-1), jump(7, b...), unless(2, 7, 5), ret(-1), jump(7, c...), jump(7), ret(-1, a...), ret(-1)},
			[]api.Block{unless(2, 1, 2, charged(a...)...), jump(3, b...), jump(3, c...), ret(-1, a...)},
		},
		{"To and Else the other way round", []api.Block{unless(2, 4, 2, charged(a...)...), ret(-1), jump(4, b...), ret(-1), ret(-1, c...)}, []api.Block{unless(2, 2, 1, charged(a...)...), jump(2, b...), ret(-1, c...)}},
		{
			"back over them", []api.Block{jump(3, charged()...), ret(-1), ret(-1), unless(3, 5, 7, charged(op(api.INext, 3, 0, 2, numbers))...), ret(-1), ret(-1, a...), ret(-1), jump(3, b...)},
			[]api.Block{jump(1, charged()...), unless(3, 2, 3, charged(op(api.INext, 3, 0, 2, numbers))...), ret(-1, a...), jump(1, b...)},
		},
		{"all are reached, the last one first", []api.Block{jump(4, charged()...), ret(-1, a...), jump(1, charged(b...)...), jump(2, charged(c...)...), jump(3, charged(a...)...)}, nil},
		{"empty ones stay", []api.Block{jump(1), jump(3, charged()...), ret(-1, a...), jump(5), jump(5), unless(2, 6, 6), jump(7), ret(-1)}, []api.Block{jump(1), jump(2, charged()...), jump(3), unless(2, 4, 4), jump(5), ret(-1)}},
	} {
		if w.want == nil {
			// Backwards one goes to a charge alone.
			w.was[1].Ops, w.want = charged(a...), w.was
		}
		wantBlocks(t, w.what, s.unit(w.was...), w.want...)
	}
}

// P15.2: whatever stands in blocks to which no way comes: layer 11 never looked at it; what is used there isn't wanted.
func TestAnythingThatIsNotReached(t *testing.T) {
	var s sheet
	some := []api.Op{s.num(3, 2), s.text(4, "p"), be(5, 1)}
	for what, junk := range map[string]api.Block{
		"of no types":             ret(-1, op(api.INeg, 9, 10), op(api.ICat, 9, 5, 3), op(api.IField, 9, 3, 0, 11), op(api.IMake, 9, 3, 0, 2), op(api.IEmit, 0, 5), op(api.INext, 9, 9, 9, texts)),
		"a value from a handler":  ret(3, charged()...),
		"entered, never left":     ret(-1, op(api.IEnter), op(api.IEnter)),
		"left, never entered":     jump(2, op(api.ILeave)),
		"a truth that is none":    unless(3, 2, 1, charged()...),
		"a truth that is known":   unless(5, 2, 1, charged(be(5, 0))...),
		"all that it uses":        ret(-1, op(api.IPut, 0, 3, 3, numbers), op(api.IEmit, 0, 4), op(api.IPut, 0, 3, 5, truths)),
		"calls":                   ret(-1, op(api.ICall, 3, 3, 0, fnAdd), op(api.ICall, 4, 4, 0, fnNothing)),
		"back to what is reached": unless(5, 0, 2, charged()...),
	} {
		u := s.unit(jump(2, charged(some...)...), junk, ret(-1, s.emit("end")...))
		wantBlocks(t, what, u, jump(1, charged()...), ret(-1, s.emit("end")...))
		if t.Failed() {
			t.Fatal(what)
		}
	}
}

// P15.2: an IUnless goes one way alone if an IBool of its block gave its register, whichever truth that is and wherever its ways go; nothing else comes to the block at the other one's end.
func TestTruthsThatAreKnown(t *testing.T) {
	var s sheet
	a, b, c := s.emit("a"), s.emit("b"), s.emit("c")
	for _, w := range []struct {
		what      string
		was, want []api.Block
	}{
		{"false", []api.Block{unless(3, 1, 2, charged(be(3, 0))...), ret(-1, a...), ret(-1, b...)}, []api.Block{jump(1, charged()...), ret(-1, a...)}},
		{"true", []api.Block{unless(3, 1, 2, charged(be(3, 1))...), ret(-1, a...), ret(-1, b...)}, []api.Block{jump(1, charged()...), ret(-1, b...)}},
		{"false, the other way round", []api.Block{unless(3, 2, 1, charged(be(3, 0))...), ret(-1, a...), ret(-1, b...)}, []api.Block{jump(1, charged()...), ret(-1, b...)}},
		{"true, the other way round", []api.Block{unless(3, 2, 1, charged(be(3, 1))...), ret(-1, a...), ret(-1, b...)}, []api.Block{jump(1, charged()...), ret(-1, a...)}},
		{"both ways are one", []api.Block{unless(3, 1, 1, charged(be(3, 1))...), ret(-1, a...)}, []api.Block{jump(1, charged()...), ret(-1, a...)}},
		{"false, then true", []api.Block{unless(3, 1, 2, charged(be(3, 0), be(3, 1))...), ret(-1, a...), ret(-1, b...)}, []api.Block{jump(1, charged()...), ret(-1, b...)}},
		{"true, then false", []api.Block{unless(3, 1, 2, charged(be(3, 1), be(3, 0))...), ret(-1, a...), ret(-1, b...)}, []api.Block{jump(1, charged()...), ret(-1, a...)}},
		{"register 0", []api.Block{unless(0, 1, 2, charged(be(0, 1), s.num(3, 1), op(api.IPut, 0, 3, 3, numbers), op(api.IEmit, 0, 1), op(api.ICharge), op(api.ICall, -1, 0, 0, fnNothing))...), ret(-1, a...), ret(-1, b...)}, []api.Block{jump(1, charged(s.num(3, 1), op(api.IPut, 0, 3, 3, numbers), op(api.IEmit, 0, 1), op(api.ICharge), op(api.ICall, -1, 0, 0, fnNothing))...), ret(-1, b...)}},
		{"INext of others between", []api.Block{unless(3, 1, 2, charged(be(3, 1), be(6, 0), op(api.INext, 4, 0, 6, numbers))...), ret(-1, a...), ret(-1, b...)}, []api.Block{jump(1, charged(be(6, 0), op(api.INext, 4, 0, 6, numbers))...), ret(-1, b...)}},
		{"the truth is wanted elsewhere", []api.Block{unless(3, 1, 2, charged(be(3, 0))...), ret(-1, s.tell(3, boolType)...), ret(-1, b...)}, []api.Block{jump(1, charged(be(3, 0))...), ret(-1, s.tell(3, boolType)...)}},
		{"the truth is used ahead", []api.Block{unless(3, 1, 2, charged(be(3, 0), op(api.IPut, 0, 0, 3, truths))...), ret(-1, a...), ret(-1, b...)}, []api.Block{jump(1, charged(be(3, 0), op(api.IPut, 0, 0, 3, truths))...), ret(-1, a...)}},
		{"what its other way wants", []api.Block{unless(3, 1, 2, charged(be(3, 1), s.num(4, 5), s.num(5, 6))...), ret(-1, s.tell(4, intType)...), ret(-1, s.tell(5, intType)...)}, []api.Block{jump(1, charged(s.num(5, 6))...), ret(-1, s.tell(5, intType)...)}},
		{"one way leads to the other one's end", []api.Block{unless(3, 1, 2, charged(be(3, 0))...), jump(2, a...), ret(-1, b...)}, []api.Block{jump(1, charged()...), jump(2, a...), ret(-1, b...)}},
		{"over a block", []api.Block{unless(3, 1, 2, charged(be(3, 1))...), jump(2, a...), ret(-1, b...)}, []api.Block{jump(1, charged()...), ret(-1, b...)}},
		{"a block that is reached otherwise", []api.Block{unless(2, 1, 2, charged()...), unless(3, 2, 3, be(3, 1)), ret(-1, a...), ret(-1, b...)}, []api.Block{unless(2, 1, 2, charged()...), jump(3), ret(-1, a...), ret(-1, b...)}},
		{"row upon row", []api.Block{unless(3, 4, 1, charged(be(3, 1))...), unless(3, 2, 5, be(3, 0)), unless(3, 5, 3, be(3, 1)), ret(-1, charged(a...)...), unless(2, 5, 3), ret(-1, b...)}, []api.Block{jump(1, charged()...), jump(2), jump(3), ret(-1, charged(a...)...)}},
		{"round that is never gone", []api.Block{jump(1, charged()...), unless(3, 2, 0, charged(be(3, 0))...), ret(-1, c...)}, []api.Block{jump(1, charged()...), jump(2, op(api.ICharge)), ret(-1, c...)}},
		{"round and round", []api.Block{jump(1, charged()...), unless(3, 2, 1, charged(be(3, 1))...), ret(-1, c...)}, []api.Block{jump(1, charged()...), jump(1, charged()...)}},
		{"round by To", []api.Block{unless(3, 0, 1, charged(be(3, 0))...), ret(-1, c...)}, []api.Block{jump(0, charged()...)}},
		{"a round that is left by one way", []api.Block{jump(2, charged()...), ret(-1, charged(c...)...), unless(3, 1, 3, charged(be(3, 1))...), unless(2, 4, 2), jump(1, b...)}, []api.Block{jump(2, charged()...), ret(-1, charged(c...)...), jump(3, charged()...), unless(2, 4, 2), jump(1, b...)}},
	} {
		wantBlocks(t, w.what, s.unit(w.was...), w.want...)
	}
}

// P15.2: what gives the register anew hides what the IBool ahead gave.
func TestTruthsThatAreGivenAnew(t *testing.T) {
	var s sheet
	a, b := s.emit("a"), s.emit("b")
	key := s.num(5, -5)
	for _, k := range []int{0, 1} {
		for what, row := range map[string][]api.Op{
			"IMove": {move(3, 2)}, "IMove of itself": {be(3, k), move(3, 3)}, "INot": {op(api.INot, 3, 2)}, "INot of itself": {be(3, k), op(api.INot, 3, 3)}, "IHas": {op(api.IHas, 3, 0, 0, numbers)}, "IGet": {op(api.IGet, 3, 0, 0, truths)},
			"IEq": {op(api.IEq, 3, 0, 0)}, "INe": {op(api.INe, 3, 1, 1)}, "ILt": {op(api.ILt, 3, 0, 0)}, "ILe": {op(api.ILe, 3, 0, 0)}, "IGt": {op(api.IGt, 3, 1, 1)}, "IGe": {op(api.IGe, 3, 0, 0)},
			"IField": {be(4, k), op(api.IMake, 4, 4, 0, 2), op(api.IField, 3, 4, 0, 0)}, "ICall": {op(api.ICall, 3, 2, 0, fnTruth)}, "INext": {key, op(api.INext, 3, 5, 2, numbers)},
			"INext, its truth": {be(3, k), key, op(api.INext, 4, 5, 3, numbers)}, "INext, its truth and whether there is one": {be(3, k), key, op(api.INext, 3, 5, 3, numbers)},
			"of another register": {be(4, k), move(3, 2)}, "and something behind it": {move(3, 2), be(4, k), s.num(6, 1), op(api.IPut, 0, 6, 6, numbers)},
		} {
			left := slices.Clone(row)
			if what == "of another register" {
				left = left[1:]
			} else if what == "and something behind it" {
				left = slices.Delete(left, 1, 2)
			}
			for _, isAhead := range []bool{false, true} {
				ops := row
				if isAhead && row[0].D != 3 {
					ops = append([]api.Op{be(3, k)}, row...)
				}
				u := s.unit(unless(3, 1, 2, charged(ops...)...), ret(-1, a...), ret(-1, b...))
				wantBlocks(t, what, u, unless(3, 1, 2, charged(left...)...), ret(-1, a...), ret(-1, b...))
			}
		}
	}
}

// P15.2: what an IBool of another block gave isn't known.
func TestTruthsOfOtherBlocks(t *testing.T) {
	var s sheet
	a, b := s.emit("a"), s.emit("b")
	ends := []api.Block{ret(-1, a...), ret(-1, b...)}
	for what, blocks := range map[string][]api.Block{
		"the one ahead":   append([]api.Block{jump(1, charged(be(3, 1))...), unless(3, 2, 3)}, ends...),
		"two unlike ones": append([]api.Block{unless(2, 1, 2, charged()...), jump(3, be(3, 0)), jump(3, be(3, 1)), unless(3, 4, 5)}, ends...),
		"round":           append([]api.Block{jump(1, charged(be(3, 0))...), unless(3, 2, 3, op(api.IEmit, 0, 1))}, ends...),
	} {
		wantBlocks(t, what, s.unit(blocks...), blocks...)
	}
}

// P15.2: all functions and handlers, by themselves.
func TestAllFunctions(t *testing.T) {
	var s sheet
	u := s.unit(ret(-1, charged()...))
	var want []api.Graph
	for i, g := range graphs(u) {
		want = append(want, graph(g.Regs+2, g.Blocks...))
		was := &slices.Concat(u.Funcs, u.Events)[i]
		was.Regs += 2
		last := g.Regs + 1
		first := g.Blocks[0]
		idle := []api.Op{s.num(last, int64(i)), move(last-1, last), be(last, i%2)}
		end := ret(first.A, slices.Concat(first.Ops[1:], idle)...)
		blocks := []api.Block{unless(last, 2+i%2*2, 4-i%2*2, charged(idle...)...), jump(2, op(api.IEnter)), end, jump(4, op(api.ILeave)), end}
		want[i].Blocks = []api.Block{jump(1, charged()...), ret(first.A, first.Ops[1:]...)}
		if i < fnCount {
			u.Funcs[i] = graph(g.Regs+2, blocks...)
		} else {
			u.Events[i-fnCount] = graph(g.Regs+2, blocks...)
		}
	}
	u.Ints = s.ints
	v := passed(t, u)
	for i, g := range graphs(v) {
		if shown(g) != shown(want[i]) {
			t.Errorf("P15.2: function %d:\n%s, want\n%s", i, blocksSpelled(g.Blocks), blocksSpelled(want[i].Blocks))
		}
	}
	wantRunsAlike(t, u, v)
}

// P15.1: whichever blocks of a row go, all ways lead where they led: the row is told by what is emitted on the way.
func TestRowsOfBlocks(t *testing.T) {
	const count = 6
	for bits := range 1 << count {
		for k := range 2 {
			var s sheet
			var blocks []api.Block
			for i := range count {
				// Where the bit is there, the IUnless goes on, else to the end; the other way is never gone.
				on, off := i+1, count
				if bits>>i&1 == 0 {
					on, off = off, on
				}
				b := unless(3, on, off, append(s.emit(fmt.Sprint(i)), be(3, 0))...)
				if k == 1 {
					b.To, b.Else, b.Ops[2] = off, on, be(3, 1)
				}
				blocks = append(blocks, b)
			}
			blocks[0].Ops = charged(blocks[0].Ops...)
			u := s.unit(append(blocks, ret(-1, s.emit("end")...))...)
			v := passed(t, u)
			o := wantAlike(t, u, v, run{blank(), eventOf(0, "", false), nil, 0})
			if len(v.Events[onE].Blocks) != len(o.Emits) {
				t.Errorf("P15.2: %d blocks, want %d", len(v.Events[onE].Blocks), len(o.Emits))
			}
		}
	}
}
