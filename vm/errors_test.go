package vm_test

import (
	"math"
	"slices"
	"strconv"
	"strings"
	"testing"

	"windlass/api"
	"windlass/verify"
	"windlass/vm"
)

// plain: a code whose e has a param of each sort, and its arguments.
func plain() (api.Code, api.Event) {
	args := []api.Value{numbered(1), texted("a"), truth(true), pairOf(2, "b"), recorded(1, truth(false))}
	return coded(typesOf(args), emit(1)), eventOf(args...)
}

// wantErr: of both calls, with nothing beside it.
func wantErr(t *testing.T, what string, c api.Code, s api.State, e api.Event, want api.Errno) {
	t.Helper()
	for _, answers := range [][]string{nil, {}, {"a", strings.Repeat("y", 65)}} {
		for _, waiting := range []int{0, -1, 12, math.MinInt, math.MaxInt} {
			o, err := vm.Run(c, s, e, answers, waiting)
			done, longest, traceErr := vm.Trace(c, s, e, answers, waiting)
			if err != want || traceErr != want {
				t.Errorf("P12.1: %s: %d, %d; want %d", what, err, traceErr, want)
			}
			isZero := shown(o) == shown(api.Outcome{}) && done == 0 && longest == 0
			if want != api.OK && !isZero {
				t.Errorf("P12.1: %s: beside %d: %s, %d, %d", what, err, shown(o), done, longest)
			}
		}
	}
}

// badCodes: one of each of verify's errors, and other things that aren't code.
func badCodes() map[string]api.Code {
	c, e := plain()
	types := typesOf(e.Args)
	shape, second := c, coded(types)
	shape.Events = shape.Events[1:]
	second.Events[3].Ops = []api.Op{charge(), jump(1)}
	fn := coded(types)
	fn.Funcs[fnAdd].Ops[2].A = 9
	noCharge := coded(types)
	noCharge.Events[0].Ops = noCharge.Events[0].Ops[1:]
	out := coded(types)
	out.Events[0].Ops = []api.Op{charge()}
	name := coded(types)
	name.Program.Events[1].Name = "e"
	return map[string]api.Code{
		"one handler less": shape, "a jump in another handler": second, "a function's register": fn, "no charge": noCharge,
		"it runs out": out, "one name twice": name, "height": coded(types, enter()), "a type": coded(types, emit(0)), "a register without a type": coded(types, emit(9)),
		"a constant that isn't there": coded(types, set(3, 5)), "no instruction": coded(types, op(0)), "a field too much": coded(types, op(api.IEnter, 1), leave()), "more enters than may be": coded(types, append(times(13, enter()), times(13, leave())...)...),
	}
}

// badStates: none of which is a state of the program.
func badStates() map[string]api.State {
	much := full()
	much.Maps[numbers] = append(much.Maps[numbers], api.Entry{Key: numbered(99), Value: numbered(0)})
	return map[string]api.State{
		"no maps": {}, "one map less": {Maps: make([][]api.Entry, mapCount-1)}, "one map more": {Maps: make([][]api.Entry, mapCount+1)}, "25 entries": much,
		"a key of another type": filled(numbers, texted("a"), numbered(1)), "a value of another type": filled(numbers, numbered(1), texted("a")),
		"keys that fall": filled(numbers, numbered(2), numbered(1), numbered(1), numbered(1)), "a key twice": filled(texts, texted("a"), texted(""), texted("a"), texted("")),
		"a long text": filled(texts, texted("a"), texted(strings.Repeat("x", 65))), "another record": filled(pairs, numbered(1), recorded(1, truth(true))), "fewer fields": filled(pairs, numbered(1), recorded(0, numbered(1))),
		"a truth of 2": filled(truths, texted("a"), api.Value{Kind: api.Bool, Int: 2}), "a value without anything": filled(numbers, numbered(1), api.Value{}),
	}
}

// badEvents: none of which the plain code's e takes.
func badEvents() map[string]api.Event {
	_, e := plain()
	bad := map[string]api.Event{
		"no name": {Args: e.Args}, "another name": {Name: "f", Args: e.Args}, "a great letter": {Name: "E", Args: e.Args}, "a longer name": {Name: "e ", Args: e.Args}, "a function's name": {Name: "add", Args: []api.Value{numbered(1), numbered(2)}}, "a map's name": {Name: "numbers"},
		"no arguments": {Name: "e"}, "one less": eventOf(e.Args[:4]...), "one more": eventOf(append(slices.Clone(e.Args), numbered(0))...), "arguments of nothing": {Name: "nothing", Args: e.Args[:1]}, "another handler's": {Name: "int", Args: e.Args},
	}
	values := map[string]api.Value{
		"nothing": {}, "a long text": texted(strings.Repeat("x", 65)), "a truth of 2": {Kind: api.Bool, Int: 2}, "a truth of -1": {Kind: api.Bool, Int: -1}, "a number with a text": {Kind: api.Int, Text: "a"}, "a text with a number": {Kind: api.Text, Int: 1}, "a number with fields": {Kind: api.Int, Fields: e.Args},
		"another record": recorded(2, numbered(1), texted("")), "a record without fields": recorded(0), "a record with one more": recorded(0, numbered(1), texted(""), texted("")), "fields turned round": recorded(0, texted(""), numbered(1)), "a field that isn't plain": recorded(0, numbered(1), texted(strings.Repeat("x", 65))), "no kind": {Kind: 5}, "below": {Kind: -1},
	}
	for i := range e.Args {
		place := " at " + strconv.Itoa(i)
		for what, v := range values {
			args := slices.Clone(e.Args)
			args[i] = v
			bad[what+place] = eventOf(args...)
		}
		args := slices.Clone(e.Args)
		args[i] = e.Args[(i+1)%len(args)]
		bad["another type"+place] = eventOf(args...)
	}
	return bad
}

// P12.1: each error, and of several the first one that the promise names.
func TestErrors(t *testing.T) {
	c, e := plain()
	wantErr(t, "all right", c, blank(), e, api.OK)
	wantErr(t, "all right", c, full(), api.Event{Name: "nothing"}, api.OK)
	for what, s := range badStates() {
		wantErr(t, what, c, s, e, api.ErrVmState)
		for also, bad := range badEvents() {
			if _, err := vm.Run(c, s, bad, nil, 0); err != api.ErrVmState {
				t.Errorf("P12.1: %s, %s: %d", what, also, err)
			}
		}
	}
	for what, bad := range badEvents() {
		wantErr(t, what, c, full(), bad, api.ErrVmEvent)
	}
	for what, code := range badCodes() {
		if _, err := verify.Check(code); err == api.OK {
			t.Errorf("%s is verified", what)
		}
		wantErr(t, what, code, blank(), e, api.ErrVmCode)
		wantErr(t, what, code, api.State{}, e, api.ErrVmCode)
		wantErr(t, what, code, blank(), api.Event{}, api.ErrVmCode)
		wantErr(t, what, code, api.State{}, api.Event{}, api.ErrVmCode)
	}
	// Code of nothing at all is verified, but has no handler.
	wantErr(t, "no program", api.Code{}, api.State{}, api.Event{}, api.ErrVmEvent)
	wantErr(t, "no program", api.Code{}, blank(), api.Event{}, api.ErrVmState)
}

// P12.1: the handler is the one of the event's name, and has its arguments in its first registers.
func TestHandlers(t *testing.T) {
	c := coded([]api.Type{intType, textType})
	for k := range c.Program.Events {
		c.Events[k].Regs = regs
		c.Events[k].Ops = []api.Op{charge(), set(regs-1, one), say(regs-3, k%3), after(regs-1, 0, k), emit(regs - 3), end()}
		c.Events[k].Ops = append(times(k, charge()), c.Events[k].Ops...)
	}
	record, _ := wideOf()
	args := [][]api.Value{{numbered(-8), texted("x")}, {numbered(8)}, {texted("y")}, {truth(true)}, {pairOf(3, "z")}, {recorded(1, truth(true))}, {record}, {texted("t"), numbered(2)}, nil}
	for k, sig := range c.Program.Events {
		e := api.Event{Name: sig.Name, Args: args[k]}
		o := run(t, c, full(), e, nil, 0)
		wantDone(t, sig.Name, o)
		if len(o.Plans) != 1 || shown(o.Plans[0]) != shown(api.Plan{Delay: 1, Event: e}) || shown(o.Emits) != shown(c.Texts[k%3:k%3+1]) || o.Fuel != k+1 || shown(o.State) != shown(full()) {
			t.Errorf("P12.1: %s: %s", sig.Name, shown(o))
		}
	}
}
