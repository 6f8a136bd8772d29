package inline_test

import (
	"slices"
	"testing"

	"windlass/api"
)

// call of a function; D and A.
func call(fn, d, a int) api.Op { return op(api.ICall, d, a, 0, fn) }

func enters(count int) []api.Op { return slices.Repeat([]api.Op{op(api.IEnter)}, count) }
func leaves(count int) []api.Op { return slices.Repeat([]api.Op{op(api.ILeave)}, count) }

// laid: what stands in a call's place: the arguments' moves behind IEnter, the body behind its charge, the result's move ahead of ILeave.
func laid(arguments []api.Op, body []api.Op, result ...api.Op) []api.Op {
	return slices.Concat(enters(1), arguments, charged(body...), result, leaves(1))
}

// into: moves from registers from A on to those behind e's own.
func into(a, count int) []api.Op {
	var list []api.Op
	for i := range count {
		list = append(list, move(regs+i, a+i))
	}
	return list
}

// Bodies of a sheet's functions as they are laid in behind e's registers.
var (
	bodyAdd = []api.Op{op(api.IAdd, regs+2, regs, regs+1)}
	bodySay = []api.Op{op(api.IEmit, 0, regs)}
	bodyNot = []api.Op{op(api.INot, regs+1, regs)}
	bodyPut = []api.Op{op(api.IPut, 0, regs, regs, numbers)}
)

// wantWide: that e has so many registers more.
func wantWide(t *testing.T, what string, v api.Unit, more int) {
	t.Helper()
	if got := v.Events[onE].Regs; got != regs+more {
		t.Errorf("P16.1: %s: %d registers, want %d more than %d", what, got, more, regs)
	}
}

// The chapter's example.
func TestExample(t *testing.T) {
	u := api.Unit{Program: api.Program{Funcs: []api.Sig{{Name: "f", Params: []api.Type{intType}, Result: intType}}, Events: []api.Sig{{Name: "e", Params: []api.Type{intType, intType}}}}}
	u.Funcs = []api.Graph{graph(1, ret(0, charged()...))}
	u.Events = []api.Graph{graph(3, ret(-1, charged(call(0, 2, 1))...))}
	v := passed(t, u)
	want := ret(-1, charged(op(api.IEnter), move(3, 1), op(api.ICharge), move(2, 3), op(api.ILeave))...)
	if got := v.Events[0]; got.Regs != 4 || blocksSpelled(got.Blocks) != blocksSpelled([]api.Block{want}) {
		t.Errorf("P16.2: %s", unitSpelled(v))
	}
	if shown(v.Funcs) != shown(u.Funcs) {
		t.Errorf("P16.1: %s", unitSpelled(v))
	}
}

// P16.2: calls with no, one and many parameters, with a result and without, wanted or not.
func TestCalls(t *testing.T) {
	var s sheet
	mixed := []api.Op{s.num(3, 7), s.text(4, "x"), op(api.IMake, 6, 3, 0, 0), be(5, 1)}
	mixedBody := []api.Op{op(api.IField, regs+4, regs+3, 0, 0), op(api.IPut, 0, regs, regs+3, pairs)}
	made := []api.Op{s.num(regs, 7), s.text(regs+1, "seven"), op(api.IMake, regs+2, regs, 0, 0)}
	var many []api.Op
	for i := range api.MaxItems {
		many = append(many, s.num(3+i, int64(i)))
	}
	sum := []api.Op{op(api.IWAdd, regs, regs, regs+11), op(api.IWSub, regs+11, regs, regs+5)}
	for _, w := range []struct {
		what               string
		ahead, was, become []api.Op
		wide               int
	}{
		{"nothing", nil, []api.Op{call(fnNothing, -1, 0)}, laid(nil, nil), 0},
		{"nothing, from another register", nil, []api.Op{call(fnNothing, -1, regs)}, laid(nil, nil), 0},
		{"a parameter alone", nil, []api.Op{call(fnMark, -1, 0)}, laid(into(0, 1), bodyPut), 1},
		{"a result alone", nil, []api.Op{call(fnPair, 3, 0)}, laid(nil, made, move(3, regs+2)), 3},
		{"a result alone, not wanted", nil, []api.Op{call(fnPair, -1, 0)}, laid(nil, made), 3},
		{"one of each", nil, []api.Op{call(fnSay, 3, 1)}, laid(into(1, 1), bodySay, move(3, regs)), 1},
		{"one of each, not wanted", nil, []api.Op{call(fnSay, -1, 1)}, laid(into(1, 1), bodySay), 1},
		{"two", []api.Op{s.num(3, 2), s.num(4, 9)}, []api.Op{call(fnAdd, 5, 3)}, laid(into(3, 2), bodyAdd, move(5, regs+2)), 3},
		{"two, not wanted", []api.Op{s.num(3, 2), s.num(4, 9)}, []api.Op{call(fnAdd, -1, 3)}, laid(into(3, 2), bodyAdd), 3},
		{"of all types", mixed, []api.Op{call(fnMixed, 7, 3)}, laid(into(3, 4), mixedBody, move(7, regs+4)), 5},
		{"many", many, []api.Op{call(fnMany, 15, 3)}, laid(into(3, 12), sum, move(15, regs+11)), 12},
		{"many, not wanted", many, []api.Op{call(fnMany, -1, 3)}, laid(into(3, 12), sum), 12},
		{"for a register that one has", nil, []api.Op{call(fnTruth, 17, 2)}, laid(into(2, 1), bodyNot, move(17, regs+1)), 2},
	} {
		was := s.unit(ret(-1, charged(slices.Concat(w.ahead, w.was)...)...))
		v := wantBlocks(t, w.what, was, ret(-1, charged(slices.Concat(w.ahead, w.become)...)...))
		wantWide(t, w.what, v, w.wide)
	}
}

// P16.1, P16.2: the result goes to one of the arguments, to one of the caller's own, to what is used behind it.
func TestResultsThatAreArguments(t *testing.T) {
	var s sheet
	two := []api.Op{s.num(3, 2), s.num(4, 9)}
	for d := range 6 {
		if d == 1 || d == 2 {
			continue
		}
		told := s.tell(d, intType)
		was, become := []api.Op{call(fnAdd, d, 3)}, laid(into(3, 2), bodyAdd, move(d, regs+2))
		s.wantRow(t, "one of two", slices.Concat(two, was, told), slices.Concat(two, become, told))
	}
	for _, w := range []struct {
		what        string
		was, become []api.Op
		d           int
		t           api.Type
	}{
		{"an argument of the caller", []api.Op{call(fnMark, -1, 0)}, laid(into(0, 1), bodyPut), 0, intType},
		{"that gives itself", []api.Op{call(fnSay, 1, 1)}, laid(into(1, 1), bodySay, move(1, regs)), 1, textType},
		{"that gives itself anew", []api.Op{call(fnTruth, 2, 2)}, laid(into(2, 1), bodyNot, move(2, regs+1)), 2, boolType},
		{"that gives another one", []api.Op{call(fnTruth, 0, 2)}, laid(into(2, 1), bodyNot, move(0, regs+1)), 0, boolType},
		{"into a register of another type", []api.Op{call(fnSay, 2, 1)}, laid(into(1, 1), bodySay, move(2, regs)), 2, textType},
		{"of no parameter", []api.Op{call(fnPair, 0, 5)}, laid(nil, []api.Op{s.num(regs, 7), s.text(regs+1, "seven"), op(api.IMake, regs+2, regs, 0, 0)}, move(0, regs+2)), 0, pair},
	} {
		told := s.tell(w.d, w.t)
		s.wantRow(t, w.what, slices.Concat(w.was, told), slices.Concat(w.become, told))
	}
}

// P16.1: a function's result may be any of its registers, a parameter that it gave anew among them; what it does to its parameters doesn't touch the caller's.
func TestParametersAreCopies(t *testing.T) {
	var s sheet
	ahead := []api.Op{s.num(3, 2), s.num(4, 9)}
	told := slices.Concat(s.tell(3, intType), s.tell(4, intType), s.tell(5, intType))
	for result := range 4 {
		u := s.unit(ret(-1, charged(slices.Concat(ahead, []api.Op{call(fnAdd, 5, 3)}, told)...)...))
		body := func(base int) []api.Op {
			return []api.Op{op(api.IWMul, base, base, base+1), op(api.IWSub, base+1, base, base), op(api.IWAdd, base+2, base, base+1), move(base+3, base)}
		}
		u.Funcs[fnAdd] = graph(4, ret(result, charged(body(0)...)...))
		v := wantBlocks(t, "parameters that are given anew", u, ret(-1, charged(slices.Concat(ahead, laid(into(3, 2), body(regs), move(5, regs+result)), told)...)...))
		wantWide(t, "parameters that are given anew", v, 4)
	}
}

// P16.2: calls one behind the other lie on the same registers, as many as the widest function has.
func TestCallsInARow(t *testing.T) {
	var s sheet
	two := []api.Op{s.num(3, 2), s.num(4, 9)}
	add := func(d, a int) []api.Op { return laid(into(a, 2), bodyAdd, move(d, regs+2)) }
	say := func(d, a int) []api.Op { return laid(into(a, 1), bodySay, move(d, regs)) }
	told := s.tell(5, intType)
	for _, w := range []struct {
		what        string
		was, become []api.Op
		wide        int
	}{
		{"twice", []api.Op{call(fnAdd, 5, 3), call(fnAdd, 5, 3)}, slices.Concat(add(5, 3), add(5, 3)), 3},
		{"one in the other", []api.Op{call(fnAdd, 5, 3), call(fnAdd, 5, 4)}, slices.Concat(add(5, 3), add(5, 4)), 3},
		{"to and fro", []api.Op{call(fnAdd, 4, 3), call(fnAdd, 3, 3), call(fnAdd, 5, 3)}, slices.Concat(add(4, 3), add(3, 3), add(5, 3)), 3},
		{"unlike ones", []api.Op{call(fnSay, 6, 1), call(fnAdd, 5, 3), call(fnSay, 1, 6), call(fnNothing, -1, 0)}, slices.Concat(say(6, 1), add(5, 3), say(1, 6), laid(nil, nil)), 3},
		{"the widest one first", []api.Op{call(fnAdd, 5, 3), call(fnSay, 6, 1)}, slices.Concat(add(5, 3), say(6, 1)), 3},
		{"the widest one isn't small", []api.Op{call(fnSay, 6, 1), call(fnLong, 5, 3), call(fnSay, 6, 6)}, slices.Concat(say(6, 1), []api.Op{call(fnLong, 5, 3)}, say(6, 6)), 1},
		{"none is small", []api.Op{call(fnLong, 5, 3), call(fnOuter, 5, 5)}, []api.Op{call(fnLong, 5, 3), call(fnOuter, 5, 5)}, 0},
		{"with something between", []api.Op{call(fnAdd, 5, 3), op(api.IPut, 0, 5, 5, numbers), s.num(3, 6), call(fnAdd, 5, 3)}, slices.Concat(add(5, 3), []api.Op{op(api.IPut, 0, 5, 5, numbers), s.num(3, 6)}, add(5, 3)), 3},
		{"behind charges", []api.Op{op(api.ICharge), call(fnAdd, 5, 3), op(api.ICharge)}, slices.Concat(charged(add(5, 3)...), charged()), 3},
	} {
		was := s.unit(ret(-1, charged(slices.Concat(two, []api.Op{s.num(5, 1)}, w.was, told)...)...))
		v := wantBlocks(t, w.what, was, ret(-1, charged(slices.Concat(two, []api.Op{s.num(5, 1)}, w.become, told)...)...))
		wantWide(t, w.what, v, w.wide)
	}
}

// P16.1: registers that a function hasn't given yet, but the call ahead of it has, of another type.
func TestRegistersOfTheCallAhead(t *testing.T) {
	var s sheet
	u := s.unit(ret(-1, charged(slices.Concat([]api.Op{s.num(3, 2), s.num(4, 3), call(fnAdd, 5, 3), call(fnPair, 6, 0), call(fnTruth, 7, 2), call(fnSay, 8, 1), call(fnMark, -1, 5), call(fnAdd, 5, 3)}, s.tell(5, intType), s.tell(7, boolType), s.tell(6, pair))...)...))
	v := passed(t, u)
	wantModel(t, u, v)
	wantRunsAlike(t, u, v)
	// A key that nothing comes ahead of: its registers are what they were given, not what the last call left in them.
	next := charged(s.num(1, -5), be(2, 0), op(api.INext, 3, 1, 2, numbers), op(api.IPut, 0, 0, 1, numbers))
	u = s.unit(ret(-1, charged(call(fnMark, -1, 0), s.num(3, 9), call(fnMark, -1, 3))...))
	u.Funcs[fnMark] = graph(4, ret(-1, next...))
	v = passed(t, u)
	wantModel(t, u, v)
	wantRunsAlike(t, u, v)
}

// P16.2: in each block, behind each sort of end; a loop's calls are laid in once.
func TestCallsInBlocks(t *testing.T) {
	var s sheet
	say, put := laid(into(1, 1), bodySay), laid(into(0, 1), bodyPut)
	was := func(add, say, put []api.Op) []api.Block {
		one, five := s.num(3, 1), s.num(4, 5)
		return []api.Block{
			jump(1, charged(slices.Concat([]api.Op{one, five}, say)...)...),
			unless(5, 4, 2, charged(append(slices.Clone(put), op(api.ILt, 5, 0, 4))...)...),
			unless(2, 3, 1, slices.Concat(add, say, []api.Op{op(api.IWAdd, 0, 0, 3)}, put)...),
			jump(4, slices.Concat(put, say, put)...), ret(-1, say...),
		}
	}
	adds := laid([]api.Op{move(regs, 3), move(regs+1, 4)}, bodyAdd, move(6, regs+2))
	u := s.unit(was([]api.Op{call(fnAdd, 6, 3)}, []api.Op{call(fnSay, -1, 1)}, []api.Op{call(fnMark, -1, 0)})...)
	v := wantBlocks(t, "blocks", u, was(adds, say, put)...)
	wantWide(t, "blocks", v, 3)
	// A call is all that its block has.
	u = s.unit(unless(2, 1, 2, charged()...), jump(2, call(fnMark, -1, 0)), ret(-1, call(fnSay, -1, 1)))
	wantBlocks(t, "alone", u, unless(2, 1, 2, charged()...), jump(2, put...), ret(-1, say...))
	// What the end uses is what the call gave.
	u = s.unit(unless(3, 1, 2, charged(call(fnTruth, 3, 2))...), ret(-1, call(fnSay, -1, 1)), ret(-1))
	wantBlocks(t, "an end", u, unless(3, 1, 2, charged(laid(into(2, 1), bodyNot, move(3, regs+1))...)...), ret(-1, say...), ret(-1))
}

// P16.2: the calls of functions and of all handlers, each behind its own registers.
func TestEachFunction(t *testing.T) {
	var s sheet
	u := s.unit(ret(-1, charged(call(fnOuter, 3, 0), call(fnLong, 4, 3), call(fnOuter, 5, 4))...))
	u.Funcs[fnLong] = graph(4, jump(1, charged(op(api.IStr, 1, 0), call(fnSay, 2, 1))...), ret(0, call(fnMark, -1, 0)))
	for i := range eventCount - 1 {
		u.Events[i+1] = graph(2+i, ret(-1, charged(call(fnNothing, -1, i), call(fnPair, 1+i, 0))...))
	}
	v := passed(t, u)
	wantModel(t, u, v)
	wantRunsAlike(t, u, v)
	for fn, want := range map[int]api.Graph{
		fnOuter: graph(6, ret(2, charged(move(1, 0), op(api.IEnter), move(3, 0), move(4, 1), op(api.ICharge), op(api.IAdd, 5, 3, 4), move(2, 5), op(api.ILeave))...)),
		fnLong:  graph(5, jump(1, charged(op(api.IStr, 1, 0), op(api.IEnter), move(4, 1), op(api.ICharge), op(api.IEmit, 0, 4), move(2, 4), op(api.ILeave))...), ret(0, op(api.IEnter), move(4, 0), op(api.ICharge), op(api.IPut, 0, 4, 4, numbers), op(api.ILeave))),
	} {
		if shown(v.Funcs[fn]) != shown(want) {
			t.Errorf("P16.2: function %d: %s", fn, unitSpelled(v))
		}
	}
	for i := range eventCount - 1 {
		ops := v.Events[i+1].Blocks[0].Ops
		if slices.ContainsFunc(ops, func(o api.Op) bool { return o.Code == api.ICall }) || v.Events[i+1].Regs != 5+i {
			t.Errorf("P16.2: handler %d: %s", i+1, unitSpelled(v))
		}
	}
}
