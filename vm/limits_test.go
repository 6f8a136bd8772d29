package vm_test

import (
	"fmt"
	"math"
	"slices"
	"strings"
	"testing"

	"windlass/api"
)

// P9.1: MaxFuel charges, and one more.
func TestFuel(t *testing.T) {
	for _, more := range []int{0, 1, 398, 399, 400, 401, 1000} {
		c := coded([]api.Type{textType}, slices.Concat([]api.Op{emit(0)}, times(more, charge()))...)
		o := run(t, c, full(), eventOf(texted("x")), nil, 0)
		if more < 400 {
			wantDone(t, "charges", o)
		} else {
			wantTrap(t, "charges", o, api.TrapFuel, full())
		}
		if o.Fuel != min(1+more, 400) {
			t.Errorf("P12.3: %d and one: Fuel %d", more, o.Fuel)
		}
	}
	// In a loop, and in functions that are called.
	o := run(t, coded(nil, jump(0)), blank(), eventOf(), nil, 0)
	wantTrap(t, "a loop", o, api.TrapFuel, blank())
	for _, calls := range []int{199, 200, 399, 400, 401} {
		o := run(t, coded(nil, times(calls, call(-1, 0, fnNothing))...), blank(), eventOf(), nil, 0)
		if calls < 400 && o.End != api.Done || calls >= 400 && o.Trap != api.TrapFuel || o.Fuel != min(calls+1, 400) {
			t.Errorf("P9.1: %d calls: %s", calls, shown(o))
		}
	}
	// What is done behind the last charge is done.
	o = run(t, coded([]api.Type{textType}, append(times(399, charge()), emit(0))...), blank(), eventOf(texted("x")), nil, 0)
	if wantDone(t, "the last charge", o); shown(o.Emits) != shown([]string{"x"}) {
		t.Errorf("P12.3: %s", shown(o))
	}
}

// deep: fnAdd calls itself until its first argument is 0, and opens as many calls by IEnter ahead of it as are asked for; its result is how often it was called.
func deep(entered, enteredWithin int) api.Code {
	c := coded([]api.Type{intType, intType})
	// Registers: 0 how many are left, 1 unused, 2 one, 3 zero, 4 whether it is the last.
	ops := slices.Concat([]api.Op{charge(), set(2, one), set(3, zero)}, times(enteredWithin, enter()))
	last := len(ops) + 6
	ops = append(ops, op(api.INe, 4, 0, 3), unless(4, last), op(api.ISub, 0, 0, 2), call(1, 0, fnAdd), op(api.IAdd, 1, 1, 2), jump(last+1))
	ops = slices.Concat(ops, []api.Op{set(1, one)}, times(enteredWithin, leave()), []api.Op{ret(1)})
	c.Funcs[fnAdd] = api.Fn{Regs: 5, Ops: ops}
	c.Events[onE].Ops = slices.Concat([]api.Op{charge()}, times(entered, enter()), []api.Op{call(2, 0, fnAdd)}, times(entered, leave()), told(2, intType), []api.Op{end()})
	return c
}

// P12.2: calls by ICall and by IEnter are counted together; twelve may be open.
func TestDepth(t *testing.T) {
	for entered := range 13 {
		for within := range 5 {
			for calls := 1; calls <= 14; calls++ {
				what := fmt.Sprintf("%d entered, %d calls with %d each", entered, calls, within)
				o := run(t, deep(entered, within), full(), eventOf(numbered(int64(calls-1)), numbered(0)), nil, 0)
				if entered+calls*(within+1) <= 12 {
					wantValue(t, what, o, numbered(int64(calls)))
				} else {
					wantTrap(t, what, o, api.TrapDepth, full())
				}
				// Each call has its charge behind it, if it is open; of the one that traps nothing is done.
				room := 12 - entered
				open := min(calls, room/(within+1))
				if open < calls && room%(within+1) > 0 {
					open++
				}
				if o.Fuel != 1+open {
					t.Errorf("P12.3: %s: Fuel %d, want %d", what, o.Fuel, 1+open)
				}
			}
		}
	}
}

// P12.2: a call that has ended isn't open any more.
func TestDepthAgain(t *testing.T) {
	wantDone(t, "calls one behind the other", does(t, blank(), nil, times(50, call(-1, 0, fnNothing))...))
	wantDone(t, "entries one behind the other", does(t, blank(), nil, times(50, enter(), leave())...))
	all := slices.Concat(times(12, enter()), times(12, leave()))
	wantDone(t, "all entries, again and again", does(t, blank(), nil, times(9, slices.Concat(all, []api.Op{call(-1, 0, fnNothing)})...)...))
	c := coded(nil, call(-1, 0, fnNothing))
	for entered := range 13 {
		c.Funcs[fnNothing].Ops = slices.Concat([]api.Op{charge()}, times(entered, enter()), times(entered, leave()), []api.Op{end()})
		o := run(t, c, blank(), eventOf(), nil, 0)
		if entered < 12 {
			wantDone(t, "entries within a call", o)
		} else {
			wantTrap(t, "the thirteenth by IEnter", o, api.TrapDepth, blank())
		}
	}
}

// P9.1: MaxEmits emissions, in order, and one more.
func TestEmits(t *testing.T) {
	for count := range 15 {
		ops := []api.Op{say(1, empty)}
		var want []string
		for i := range count {
			ops = append(ops, op(api.ICat, 1, 1, 0), emit(1))
			want = append(want, strings.Repeat("é", i+1))
		}
		o := does(t, full(), []api.Value{texted("é")}, ops...)
		if count > 12 {
			wantTrap(t, "emissions", o, api.TrapEmits, full())
			continue
		}
		if wantDone(t, "emissions", o); shown(o.Emits) != shown(want) {
			t.Errorf("P12.3: %v, want %v", o.Emits, want)
		}
	}
}

// P12.2: timers that wait and those of the run together are MaxTimers at most.
func TestTimers(t *testing.T) {
	for _, waiting := range []int{math.MinInt, math.MinInt + 1, -13, -12, -1, 0, 1, 5, 11, 12, 13, 100, math.MaxInt32, 1 << 32, math.MaxInt - 1, math.MaxInt} {
		for count := range 15 {
			c := coded([]api.Type{intType}, times(count, after(0, 0, onNothing))...)
			o := run(t, c, full(), eventOf(numbered(3)), nil, waiting)
			what := fmt.Sprintf("%d timers, %d wait", count, waiting)
			if room := 12 - min(max(waiting, 0), 12); count <= room {
				wantDone(t, what, o)
				want := slices.Repeat([]api.Plan{{Delay: 3, Event: api.Event{Name: "nothing"}}}, count)
				if shown(o.Plans) != shown(want) {
					t.Errorf("P12.3: %s: %s", what, shown(o.Plans))
				}
			} else {
				wantTrap(t, what, o, api.TrapDelay, full())
			}
		}
	}
}

// P12.2: a delay is 1 to MaxDelay ticks.
func TestDelays(t *testing.T) {
	for _, delay := range []int64{math.MinInt64, -1 << 32, -1000, -1, 0, 1, 2, 999, 1000, 1001, 1 << 31, 1 << 32, 1<<32 + 1, math.MaxInt64} {
		o := does(t, full(), []api.Value{numbered(delay), texted("a")}, after(0, 0, onInt), after(0, 1, onText))
		if delay < 1 || delay > 1000 {
			wantTrap(t, fmt.Sprint("delay ", delay), o, api.TrapDelay, full())
			continue
		}
		want := []api.Plan{{Delay: int(delay), Event: api.Event{Name: "int", Args: []api.Value{numbered(delay)}}}, {Delay: int(delay), Event: api.Event{Name: "text", Args: []api.Value{texted("a")}}}}
		if wantDone(t, "delay", o); shown(o.Plans) != shown(want) {
			t.Errorf("P12.3: %s, want %s", shown(o.Plans), shown(want))
		}
	}
}

// P9.1: the timer has the registers' values as they are when it is set.
func TestTimersKeepTheirArguments(t *testing.T) {
	ops := []api.Op{set(2, one), after(2, 0, onTwo), say(0, other), set(1, many), after(1, 0, onTwo), op(api.INeg, 1, 1)}
	o := does(t, blank(), []api.Value{texted("first"), numbered(1)}, ops...)
	want := []api.Plan{
		{Delay: 1, Event: api.Event{Name: "two", Args: []api.Value{texted("first"), numbered(1)}}},
		{Delay: 24, Event: api.Event{Name: "two", Args: []api.Value{texted("other"), numbered(24)}}},
	}
	if wantDone(t, "timers", o); shown(o.Plans) != shown(want) {
		t.Errorf("P12.3: %s, want %s", shown(o.Plans), shown(want))
	}
}

// P12.3: a trap leaves the state, no emissions, no timers; but all requests, and the charges.
func TestWhatATrapLeaves(t *testing.T) {
	busy := []api.Op{put(1, 1, numbers), op(api.IDel, 0, 2, 0, numbers), emit(0), after(3, 1, onInt), charge(), ask(4, 0, port), charge()}
	args := []api.Value{texted("q"), numbered(46), numbered(2), numbered(1)}
	for what, r := range map[string]struct {
		trap int
		ops  []api.Op
	}{
		"over": {api.TrapOver, append([]api.Op{op(api.IMove, 5, 1)}, times(5, op(api.IMul, 5, 5, 5))...)},
		"zero": {api.TrapZero, []api.Op{set(5, zero), op(api.IDiv, 5, 5, 5)}},
		"long": {api.TrapLong, times(7, op(api.ICat, 0, 0, 0))},
		"full": {api.TrapFull, []api.Op{put(2, 2, numbers), put(3, 3, numbers)}},
		"fuel": {api.TrapFuel, times(398, charge())}, "depth": {api.TrapDepth, slices.Concat(times(12, enter()), []api.Op{call(-1, 0, fnNothing)}, times(12, leave()))},
		"asks":  {api.TrapAsks, times(4, ask(4, 0, other))},
		"emits": {api.TrapEmits, times(12, emit(0))}, "delay": {api.TrapDelay, []api.Op{set(5, zero), after(5, 1, onInt)}},
	} {
		c := coded(typesOf(args), slices.Concat(busy, r.ops)...)
		o := run(t, c, full(), eventOf(args...), []string{"1", "2", "3", "4", "5"}, 0)
		wantTrap(t, what, o, r.trap, full())
		want := []api.Request{{N: 1, Port: "port", Text: "q"}}
		fuel := 3
		if r.trap == api.TrapAsks {
			want = append(want, api.Request{N: 2, Port: "other", Text: "q"}, api.Request{N: 3, Port: "other", Text: "q"}, api.Request{N: 4, Port: "other", Text: "q"})
		}
		if r.trap == api.TrapFuel {
			fuel = 400
		}
		if shown(o.Requests) != shown(want) || o.Fuel != fuel {
			t.Errorf("P12.3: %s: %s, %d charges", what, shown(o.Requests), o.Fuel)
		}
	}
}
