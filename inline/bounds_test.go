package inline_test

import (
	"fmt"
	"slices"
	"strings"
	"testing"

	"windlass/api"
	"windlass/flow"
)

// countCalls: of a function in a graph.
func countCalls(g api.Graph, fn int) int {
	count := 0
	for _, b := range g.Blocks {
		for _, o := range b.Ops {
			if o.Code == api.ICall && o.K == fn {
				count++
			}
		}
	}
	return count
}

// length: how many instructions a graph has, laid in a row.
func length(t *testing.T, g api.Graph) int {
	t.Helper()
	f, err := flow.Fn(g)
	if err != api.OK {
		t.Fatalf("%d", err)
	}
	return len(f.Ops)
}

// P16.2: what makes a function small: at most 8 instructions, its IRet with them; one block; no call and no IEnter.
func TestSmallFunctions(t *testing.T) {
	var s sheet
	emits := slices.Repeat([]api.Op{op(api.IEmit, 0, 0)}, 10)
	for _, w := range []struct {
		what    string
		isSmall bool
		g       api.Graph
	}{
		{"two instructions", true, graph(1, ret(0, charged()...))},
		{"seven", true, graph(1, ret(0, charged(emits[:5]...)...))},
		{"eight", true, graph(1, ret(0, charged(emits[:6]...)...))},
		{"nine", false, graph(1, ret(0, charged(emits[:7]...)...))},
		{"twelve", false, graph(1, ret(0, charged(emits...)...))},
		{"eight charges", true, graph(1, ret(0, slices.Repeat(charged(), 7)...))},
		{"nine charges", false, graph(1, ret(0, slices.Repeat(charged(), 8)...))},
		{"two blocks in a row", false, graph(1, jump(1, charged()...), ret(0))},
		{"two blocks, two ways", false, graph(2, unless(1, 1, 1, charged(be(1, 0))...), ret(0))},
		{"a block to which nothing comes", false, graph(1, ret(0, charged()...), ret(0))},
		{"a block that jumps to itself", false, graph(1, jump(0, charged()...))},
		{"a block that goes round two ways", false, graph(2, unless(1, 0, 0, charged(be(1, 0))...))},
		{"a call", false, graph(1, ret(0, charged(call(fnNothing, -1, 0))...))},
		{"a call of a function that isn't small", false, graph(2, ret(0, charged(be(1, 0), s.num(1, 5), call(fnLong, -1, 1))...))},
		{"a call of itself", false, graph(1, ret(0, charged(call(fnSay, -1, 0))...))},
		{"a call at the end", false, graph(1, ret(0, append(charged(emits[:5]...), call(fnNothing, -1, 0))...))},
		{"entered and left", false, graph(1, ret(0, charged(op(api.IEnter), op(api.ILeave))...))},
		{"entered and left at the end", false, graph(1, ret(0, append(charged(emits[:4]...), op(api.IEnter), op(api.ILeave))...))},
	} {
		u := s.unit(ret(-1, charged(call(fnSay, 3, 1), call(fnSay, -1, 3))...))
		u.Funcs[fnSay] = w.g
		v := passed(t, u)
		if isLeft := countCalls(v.Events[onE], fnSay) == 2; isLeft == w.isSmall || !isLeft && countCalls(v.Events[onE], fnSay) > 0 {
			t.Errorf("P16.2: %s: %s", w.what, unitSpelled(v))
		}
		wantModel(t, u, v)
		wantRunsAlike(t, u, v)
	}
}

// P16.2: a function that calls a small one hasn't become small, whatever is left of it.
func TestCallersAreNotSmall(t *testing.T) {
	var s sheet
	u := s.unit(ret(-1, charged(call(fnSay, -1, 1), call(fnTruth, -1, 2))...))
	u.Funcs[fnSay] = graph(1, ret(0, charged(call(fnNothing, -1, 0))...))
	u.Funcs[fnTruth] = graph(2, ret(0, charged(call(fnTruth, 1, 0))...))
	v := wantBlocks(t, "callers", u, ret(-1, charged(call(fnSay, -1, 1), call(fnTruth, -1, 2))...))
	if got, want := shown(v.Funcs[fnSay]), shown(graph(1, ret(0, charged(op(api.IEnter), op(api.ICharge), op(api.ILeave))...))); got != want {
		t.Errorf("P16.2: %s, want %s", got, want)
	}
}

// P16.2: at each height below MaxCalls a call is laid in, behind an IEnter that was there already; at MaxCalls it isn't, as no IEnter may be there.
func TestHeights(t *testing.T) {
	var s sheet
	in, out := op(api.IEnter), op(api.ILeave)
	say := laid(into(1, 1), bodySay)
	for height := range api.MaxCalls + 1 {
		was, become := []api.Op{call(fnSay, -1, 1)}, say
		if height == api.MaxCalls {
			become = was
		}
		around := func(row []api.Op) []api.Op { return slices.Concat(enters(height), row, leaves(height)) }
		s.wantRow(t, fmt.Sprint("height ", height), around(was), around(become))
		s.wantRow(t, fmt.Sprint("around height ", height), slices.Concat(was, around(was), was), slices.Concat(say, around(become), say))
		s.wantRow(t, fmt.Sprint("behind height ", height), slices.Concat(around(nil), was), slices.Concat(around(nil), say))
		// Over blocks: entered in one, called in the next ones, left in the last one.
		blocks := func(row, last []api.Op) []api.Block {
			return []api.Block{unless(2, 1, 2, charged(enters(height)...)...), jump(3, row...), jump(3, row...), ret(-1, slices.Concat(row, leaves(height), last)...)}
		}
		wantBlocks(t, fmt.Sprint("over blocks at height ", height), s.unit(blocks(was, was)...), blocks(become, say)...)
		// Blocks that stand against the way, and a round.
		back := func(row, last []api.Op) []api.Block {
			return []api.Block{jump(3, charged(enters(height)...)...), ret(-1, charged(last...)...), unless(2, 1, 1, charged(append(slices.Clone(row), leaves(height)...)...)...), unless(2, 4, 4, charged(row...)...), jump(2, charged(row...)...)}
		}
		wantBlocks(t, fmt.Sprint("against the way at height ", height), s.unit(back(was, was)...), back(become, say)...)
	}
	was := slices.Concat(enters(11), []api.Op{call(fnSay, -1, 1), in, call(fnSay, -1, 1), out, call(fnSay, -1, 1)}, leaves(11))
	s.wantRow(t, "as high as may be, and back", was, slices.Concat(enters(11), say, []api.Op{in, call(fnSay, -1, 1), out}, say, leaves(11)))
	wide := s.unit(ret(-1, charged(slices.Concat(enters(12), []api.Op{call(fnSay, -1, 1)}, leaves(12))...)...))
	if v := passed(t, wide); v.Events[onE].Regs != regs {
		t.Errorf("P16.2: %d registers, and nothing is laid in", v.Events[onE].Regs)
	}
}

// P16.2: at most 40 registers, with those of all small functions that are called; P16.1: as many as there may be, and one more.
func TestRegisters(t *testing.T) {
	var s sheet
	for _, w := range []struct {
		what              string
		own, wide, called int
		isLaid            bool
	}{
		{"forty", 38, 2, 2, true}, {"forty by one's own", 18, 22, 22, true}, {"more than forty", 40, 8, 8, true}, {"sixty-four", 56, 8, 8, true}, {"sixty-four by one more", 63, 1, 1, true}, {"sixty-five", 57, 8, 8, false}, {"sixty-five by one more", 64, 1, 1, false},
		{"twice as many", 64, 64, 64, false}, {"as many as there may be, of a function", 18, 64, 64, false}, {"as many as fit, of a function", 18, 46, 46, true}, {"one more than fit, of a function", 18, 47, 47, false},
	} {
		u := s.unit(ret(-1, charged(call(fnSay, -1, 1), call(fnSay, -1, 1))...))
		u.Events[onE].Regs, u.Funcs[fnSay].Regs = w.own, w.called
		want := u.Events[onE]
		if w.isLaid {
			say := []api.Op{op(api.IEnter), move(w.own, 1), op(api.ICharge), op(api.IEmit, 0, w.own), op(api.ILeave)}
			want = graph(w.own+w.wide, ret(-1, charged(slices.Concat(say, say)...)...))
		}
		v := passed(t, u)
		if got := v.Events[onE]; shown(got) != shown(want) {
			t.Errorf("P16.1: %s: %s", w.what, unitSpelled(v))
		}
		wantRunsAlike(t, u, v)
	}
	// A function without registers needs no room.
	u := s.unit(ret(-1, charged(call(fnNothing, -1, 0))...))
	u.Events[onE].Regs = api.MaxRegs
	if v := passed(t, u); shown(v.Events[onE]) != shown(graph(api.MaxRegs, ret(-1, charged(laid(nil, nil)...)...))) {
		t.Errorf("P16.1: without registers: %s", unitSpelled(v))
	}
}

// P16.1: no room for one call's registers: all of the function's blocks are its own still; those of the others aren't.
func TestOthersHaveRoom(t *testing.T) {
	var s sheet
	calls := charged(call(fnSay, -1, 0), call(fnNothing, -1, 0))
	u := s.unit(ret(-1, charged(call(fnSay, -1, 1), call(fnNothing, -1, 0), call(fnMark, -1, 0), call(fnSay, -1, 1))...), ret(-1, call(fnNothing, -1, 0)))
	u.Events[onE].Regs = api.MaxRegs
	u.Events[onText] = graph(63, ret(-1, calls...))
	u.Funcs[fnLong] = graph(api.MaxRegs, jump(1, charged(move(1, 0), call(fnAdd, 2, 0))...), ret(0, call(fnMark, -1, 0)))
	v := passed(t, u)
	for what, same := range map[string][2]api.Graph{"e": {u.Events[onE], v.Events[onE]}, "long": {u.Funcs[fnLong], v.Funcs[fnLong]}} {
		if shown(same[0]) != shown(same[1]) {
			t.Errorf("P16.1: %s: %s", what, unitSpelled(v))
		}
	}
	want := graph(64, ret(-1, charged(slices.Concat(enters(1), []api.Op{move(63, 0), op(api.ICharge), op(api.IEmit, 0, 63)}, leaves(1), laid(nil, nil))...)...))
	if shown(v.Events[onText]) != shown(want) {
		t.Errorf("P16.1: %s", unitSpelled(v))
	}
	wantModel(t, u, v)
	wantRunsAlike(t, u, v)
}

// P16.2: as many calls and instructions as it speaks of, of functions with as many parameters and instructions as there may be.
func TestManyCalls(t *testing.T) {
	var s sheet
	var row []api.Op
	for i := range api.MaxItems {
		row = append(row, s.num(3+i, int64(i)))
	}
	for range 30 {
		row = append(row, call(fnMany, 15, 3))
	}
	for len(row) < 998 {
		row = append(row, s.num(3+len(row)%12, int64(len(row)%7)))
	}
	u := s.unit(ret(-1, charged(row...)...))
	u.Funcs[fnMany] = graph(22, ret(21, charged(slices.Repeat([]api.Op{op(api.IWAdd, 21, 0, 11)}, 6)...)...))
	if got := length(t, u.Events[onE]); got != 1000 {
		t.Fatalf("%d instructions", got)
	}
	v := passed(t, u)
	if countCalls(v.Events[onE], fnMany) > 0 {
		t.Errorf("P16.2: %s", unitSpelled(v))
	}
	wantModel(t, u, v)
	wantRunsAlike(t, u, v)
	// As many of each sort, over blocks.
	var blocks []api.Block
	for i := range 28 {
		calls := slices.Repeat([]api.Op{call(fnSay, -1, 1)}, i%3)
		rest := slices.Repeat(row[:api.MaxItems], 3)[:33-len(calls)]
		blocks = append(blocks, unless(2, min(i+2, 28), i+1, charged(append(calls, rest...)...)...))
	}
	u = s.unit(append(blocks, ret(-1))...)
	v = passed(t, u)
	if got := length(t, u.Events[onE]); got != 981 {
		t.Fatalf("%d instructions", got)
	}
	if countCalls(v.Events[onE], fnSay) > 0 {
		t.Errorf("P16.2: %s", unitSpelled(v))
	}
	wantModel(t, u, v)
	wantRunsAlike(t, u, v)
}

// P16.1: as many instructions as there may be behind it, and one more.
func TestInstructions(t *testing.T) {
	var s sheet
	// A call of say becomes five instructions: four more.
	for _, w := range []struct {
		count, other, last int
	}{{499, 0, 1}, {499, 1, 1}, {499, 2, 1}, {499, 3, 1}, {498, 5, 1}, {498, 6, 1}, {498, 7, 1}, {1, 1993, 2}, {1, 1994, 2}, {0, 1998, 0}, {10, 1948, 0}, {10, 1949, 0}} {
		row := slices.Concat(slices.Repeat([]api.Op{s.num(3, 1)}, w.other), slices.Repeat([]api.Op{call(fnSay, -1, 1)}, w.count))
		u := s.unit(ret(-1, charged(row...)...))
		was := length(t, u.Events[onE])
		v := passed(t, u)
		hasRoom := was+4*w.count <= api.MaxOps
		if isLaid := countCalls(v.Events[onE], fnSay) == 0; isLaid != hasRoom && w.count > 0 {
			t.Errorf("P16.1: %d calls of %d instructions: %d instructions", w.count, was, length(t, v.Events[onE]))
		}
		if !hasRoom && shown(v.Events[onE]) != shown(u.Events[onE]) {
			t.Errorf("P16.1: %d calls of %d instructions: other blocks", w.count, was)
		}
		wantModel(t, u, v)
		for _, r := range someRuns()[:4] {
			wantAlike(t, u, v, r)
		}
	}
}

// P16.1: the jumps that blocks end with count, too, and blocks that nothing comes to.
func TestInstructionsOfEnds(t *testing.T) {
	var s sheet
	for more := range 8 {
		calls := slices.Repeat([]api.Op{call(fnSay, -1, 1)}, 380)
		u := s.unit(
			unless(2, 2, 2, charged()...), jump(5), jump(3, calls...), jump(4), unless(2, 5, 5),
			ret(-1, slices.Repeat([]api.Op{s.num(3, 1)}, 91+more)...))
		was := length(t, u.Events[onE])
		v := passed(t, u)
		is := length(t, v.Events[onE])
		// With 3 more there are as many as there may be.
		if want := was + 4*380; more < 4 && is != want || more > 3 && is != was || (want <= api.MaxOps) != (more < 4) {
			t.Errorf("P16.1: of %d instructions: %d instructions", was, is)
		}
		wantModel(t, u, v)
		wantAlike(t, u, v, someRuns()[0])
	}
}

// P16.1: calls in blocks to which nothing comes, of registers of any type, even in blocks that are entered or left only there.
func TestUnreachedCalls(t *testing.T) {
	var s sheet
	for _, row := range [][]api.Op{
		{call(fnSay, 17, 17)}, {call(fnNothing, 5, 0)}, {call(fnMark, 5, 2)}, {call(fnMany, 0, 6)}, {call(fnTruth, -1, 1), call(fnPair, 1, 18)}, slices.Concat(leaves(14), []api.Op{call(fnSay, 0, 0)}), slices.Concat(enters(12), []api.Op{call(fnSay, 0, 0)}, leaves(20)),
		{call(fnLong, 3, 17), call(fnOuter, -1, 4)},
	} {
		for _, end := range []api.Block{ret(-1, row...), ret(5, row...), jump(1, row...), unless(9, 1, 1, row...)} {
			u := s.unit(jump(1, charged(call(fnSay, -1, 1))...), ret(-1, charged(call(fnMark, -1, 0))...), end)
			v := passed(t, u)
			if countCalls(v.Events[onE], fnSay) > 0 && !slices.ContainsFunc(row, func(o api.Op) bool { return o.K == fnSay && o.Code == api.ICall }) {
				t.Errorf("P16.2: %s", strings.Join(lines(row), "; "))
			}
			if got, want := blocksSpelled(v.Events[onE].Blocks[:2]), blocksSpelled([]api.Block{jump(1, charged(laid(into(1, 1), bodySay)...)...), ret(-1, charged(laid(into(0, 1), bodyPut)...)...)}); got != want {
				t.Errorf("P16.2: %s: %s, want %s", strings.Join(lines(row), "; "), got, want)
			}
			wantRunsAlike(t, u, v)
		}
	}
}

// P16.1: functions that nobody calls, and units without any.
func TestNobodyCalls(t *testing.T) {
	var s sheet
	u := s.unit(ret(-1, charged(s.num(3, 1))...))
	u.Funcs[fnOuter] = graph(1, ret(0, charged()...))
	if v := passed(t, u); shown(v) != shown(u) {
		t.Errorf("P16.1: %s", unitSpelled(v))
	}
	alone := api.Unit{Program: api.Program{Events: []api.Sig{{Name: "e"}}}, Events: []api.Graph{graph(0, ret(-1, charged()...))}}
	if v := passed(t, alone); shown(v) != shown(alone) {
		t.Errorf("P16.1: %s", unitSpelled(v))
	}
	uncalled := api.Unit{Program: api.Program{Funcs: []api.Sig{{Name: "f"}, {Name: "g"}}}, Funcs: []api.Graph{graph(0, ret(-1, charged()...)), graph(2, ret(-1, charged(call(0, -1, 0))...))}}
	if v := passed(t, uncalled); shown(v.Funcs[1]) != shown(graph(2, ret(-1, charged(laid(nil, nil)...)...))) {
		t.Errorf("P16.2: %s", unitSpelled(v))
	}
}
