package vm_test

import (
	"slices"
	"testing"

	"windlass/api"
)

// P12.2: arguments are the first registers of the function, its result is D; each function has registers of its own.
func TestCalls(t *testing.T) {
	args := []api.Value{numbered(30), numbered(4), numbered(7)}
	for d := range 5 {
		for a := range 2 {
			o := does(t, blank(), args, append([]api.Op{call(d, a, fnAdd)}, told(d, intType)...)...)
			wantValue(t, "ICall", o, numbered(args[a].Int+args[a+1].Int))
			for register := range 3 {
				if register == d {
					continue
				}
				o := does(t, blank(), args, append([]api.Op{call(d, a, fnAdd)}, told(register, intType)...)...)
				wantValue(t, "the caller's registers", o, args[register])
			}
		}
	}
	o := does(t, blank(), args, append([]api.Op{call(-1, 0, fnAdd)}, told(0, intType)...)...)
	wantValue(t, "a result that isn't wanted", o, args[0])
	if o.Fuel != 2 {
		t.Errorf("P12.3: %d charges", o.Fuel)
	}
	o = does(t, blank(), []api.Value{pairOf(1, "name")}, append([]api.Op{call(0, 0, fnName)}, told(0, textType)...)...)
	wantValue(t, "a record", o, texted("name"))
	o = does(t, blank(), nil, append([]api.Op{call(regs-1, regs, fnFlag), op(api.IMove, 0, regs-1)}, told(0, flag)...)...)
	wantValue(t, "a row of none behind the last register", o, recorded(1, truth(true)))
}

// P12.2: what a function does with its registers is its own, though it has as many as it has params, and all of them the caller's.
func TestRegistersApart(t *testing.T) {
	c := coded([]api.Type{intType, intType})
	c.Funcs[fnAdd] = api.Fn{Regs: 2, Ops: []api.Op{charge(), op(api.IMul, 0, 0, 1), op(api.INeg, 1, 1), op(api.IAdd, 0, 0, 1), ret(0)}}
	c.Events[onE].Ops = slices.Concat([]api.Op{charge(), call(2, 0, fnAdd)}, told(0, intType), told(1, intType), told(2, intType), []api.Op{end()})
	e := eventOf(numbered(5), numbered(6))
	o := run(t, c, blank(), e, nil, 0)
	wantDone(t, "registers", o)
	for i, want := range []int64{5, 6, 24} {
		if len(o.Plans) != 3 || o.Plans[i].Event.Args[0].Int != want {
			t.Errorf("P12.2: %s", shown(o))
		}
	}
	if e.Args[0].Int != 5 || e.Args[1].Int != 6 {
		t.Errorf("the event is changed: %v", e)
	}
	// A handler without registers beyond its params does the same with the event's.
	c.Events[onInt] = api.Fn{Regs: 1, Ops: []api.Op{charge(), op(api.INeg, 0, 0), after(0, 0, onInt), end()}}
	single := api.Event{Name: "int", Args: []api.Value{numbered(-8)}}
	o = run(t, c, blank(), single, nil, 0)
	if len(o.Plans) != 1 || o.Plans[0].Delay != 8 || single.Args[0].Int != -8 {
		t.Errorf("P12.2: %s, %v", shown(o), single)
	}
}

// P12.2: a function's registers are anew at each call: what isn't an argument is nothing's, whatever an earlier call left.
func TestCallsByTurns(t *testing.T) {
	c := coded([]api.Type{intType, intType})
	// It counts down to 0 by calls of its own, and adds up on the way back.
	c.Funcs[fnAdd] = api.Fn{Regs: 6, Ops: []api.Op{
		charge(), set(2, zero), op(api.IEq, 3, 0, 2), unless(3, 5), ret(1),
		set(2, one), op(api.ISub, 4, 0, 2), op(api.IAdd, 5, 1, 0), call(1, 4, fnAdd), op(api.IAdd, 1, 1, 0), ret(1),
	}}
	c.Events[onE].Ops = slices.Concat([]api.Op{charge(), call(2, 0, fnAdd), call(3, 0, fnAdd), op(api.IAdd, 2, 2, 3)}, told(2, intType), []api.Op{end()})
	o := run(t, c, blank(), eventOf(numbered(10), numbered(1000)), nil, 0)
	// 1000 and twice 10 + 9 + .. + 1, twice.
	wantValue(t, "recursion", o, numbered(2*(1000+2*55)))
	if o.Fuel != 23 {
		t.Errorf("P12.3: %d charges", o.Fuel)
	}
}

// P12.3: what functions emit, put, ask for and set is the run's, in the order in which it was done.
func TestEffectsOfFunctions(t *testing.T) {
	c := coded([]api.Type{textType, intType})
	c.Funcs[fnNothing] = api.Fn{Regs: 4, Ops: []api.Op{charge(), say(0, other), emit(0), ask(1, 0, port), emit(1), set(2, many), put(2, 2, numbers), after(2, 0, onText), end()}}
	c.Events[onE].Ops = []api.Op{charge(), emit(0), call(-1, 0, fnNothing), emit(0), op(api.IGet, 2, 1, 0, numbers), op(api.IStr, 3, 2), emit(3), call(-1, 0, fnNothing), ask(4, 0, other), emit(4), end()}
	o := run(t, c, blank(), eventOf(texted("x"), numbered(24)), []string{"one", "two", "three"}, 10)
	want := api.Outcome{
		State:    filled(numbers, numbered(24), numbered(24)),
		Emits:    []string{"x", "other", "one", "x", "24", "other", "two", "three"},
		Plans:    slices.Repeat([]api.Plan{{Delay: 24, Event: api.Event{Name: "text", Args: []api.Value{texted("other")}}}}, 2),
		Requests: []api.Request{{N: 1, Port: "port", Text: "other"}, {N: 2, Port: "port", Text: "other"}, {N: 3, Port: "other", Text: "x"}},
		Fuel:     3,
	}
	if shown(o) != shown(want) {
		t.Errorf("P12.3: %s, want %s", shown(o), shown(want))
	}
}
