package inline_test

import (
	"fmt"
	"slices"
	"strings"
	"testing"

	"windlass/api"
)

// calm: an event on a state in which nothing traps by itself.
func calm() run { return run{filled(3), eventOf(2, "x", true), nil, 0} }

// wantEnd: that both units end so.
func wantEnd(t *testing.T, what string, u api.Unit, r run, end, trap, fuel int) api.Outcome {
	t.Helper()
	v := passed(t, u)
	for i, g := range graphs(v) {
		if len(smallCalls(v, g)) > 0 {
			t.Errorf("P16.2: %s: a call is left in %d: %s", what, i, unitSpelled(v))
		}
	}
	o := wantAlike(t, u, v, r)
	if o.End != end || o.Trap != trap || o.Fuel != fuel {
		t.Errorf("%s: the test's own unit: %s", what, shown(o))
	}
	return o
}

// P16.1, P16.3: small functions that trap in each way, ahead of something that was to be done and behind something that is undone.
func TestTraps(t *testing.T) {
	var s sheet
	for _, w := range []struct {
		what string
		trap int
		body []api.Op
	}{
		{"over", api.TrapOver, []api.Op{s.num(4, 1<<62), op(api.IAdd, 4, 4, 4)}},
		{"over by one more", api.TrapOver, []api.Op{s.num(4, -1<<63), op(api.INeg, 4, 4)}},
		{"by nothing", api.TrapZero, []api.Op{s.num(4, 0), op(api.IDiv, 4, 0, 4)}},
		{"the rest by nothing", api.TrapZero, []api.Op{s.num(4, 0), op(api.IMod, 4, 0, 4)}},
		{"long", api.TrapLong, []api.Op{s.text(4, strings.Repeat("y", 64)), op(api.ICat, 4, 4, 1)}},
		{"full", api.TrapFull, []api.Op{s.num(4, 999), op(api.IPut, 0, 4, 4, numbers)}},
		{"a delay", api.TrapDelay, []api.Op{s.num(4, 1001), op(api.IAfter, 0, 4, 4, onInt)}},
		{"an answer", api.TrapLong, []api.Op{s.ask(4, 1, "port")}},
	} {
		ahead := []api.Op{move(3, 0), move(4, 1), move(5, 2), op(api.IMake, 6, 3, 0, 0), op(api.IEmit, 0, 1), op(api.IPut, 0, 3, 5, truths)}
		u := s.unit(ret(-1, charged(slices.Concat(ahead, []api.Op{call(fnMixed, 7, 3), op(api.IEmit, 0, 1)})...)...))
		u.Funcs[fnMixed] = graph(6, ret(0, charged(w.body...)...))
		r := run{filled(24), eventOf(2, "x", true), []string{strings.Repeat("a", 65)}, 0}
		r.state.Maps[truths] = nil
		o := wantEnd(t, w.what, u, r, api.Trapped, w.trap, 2)
		if shown(o.State) != shown(r.state) {
			t.Errorf("P16.1: %s: %s", w.what, shown(o.State))
		}
	}
}

// P16.1, P16.3: requests, emissions, timers: as many as there may be, in one call or in many, and one more.
func TestAsMuchAsMayBe(t *testing.T) {
	var s sheet
	answers := []string{"a", "b", "c", "d", "e"}
	for count := range api.MaxEmits + 2 {
		end := func(most int) int { return map[bool]int{false: api.Done, true: api.Trapped}[count > most] }
		trap := func(most, trap int) int { return map[bool]int{false: api.TrapNone, true: trap}[count > most] }
		row := func(o api.Op) api.Unit { return s.unit(ret(-1, charged(slices.Repeat([]api.Op{o}, count)...)...)) }
		asks, timers := row(call(fnSay, 3, 1)), row(call(fnMark, -1, 0))
		asks.Funcs[fnSay] = graph(2, ret(1, charged(s.ask(1, 0, "port"))...))
		timers.Funcs[fnMark] = graph(1, ret(-1, charged(op(api.IAfter, 0, 0, 0, onInt))...))
		asks.Texts, timers.Texts = s.texts, s.texts
		fuel := func(most int) int { return 1 + min(count, most+1) }
		wantEnd(t, fmt.Sprint(count, " emissions"), row(call(fnSay, 3, 1)), calm(), end(12), trap(12, api.TrapEmits), fuel(12))
		wantEnd(t, fmt.Sprint(count, " timers"), timers, calm(), end(12), trap(12, api.TrapDelay), fuel(12))
		r := calm()
		r.waiting = 7
		wantEnd(t, fmt.Sprint(count, " timers beside seven"), timers, r, end(5), trap(5, api.TrapDelay), fuel(5))
		r.answers = answers
		wantEnd(t, fmt.Sprint(count, " requests"), asks, r, end(4), trap(4, api.TrapAsks), fuel(4))
		for have := range 4 {
			r.answers = answers[:have]
			o := wantEnd(t, fmt.Sprint(count, " requests, ", have, " answers"), asks, r, map[bool]int{false: api.Done, true: api.Waits}[count > have], api.TrapNone, fuel(have))
			if len(o.Requests) != min(count, have+1) {
				t.Errorf("P16.1: %s", shown(o))
			}
		}
	}
	// Two of each in one call.
	u := s.unit(ret(-1, charged(call(fnSay, 3, 1), call(fnSay, 3, 3), call(fnSay, 3, 3))...))
	u.Funcs[fnSay] = graph(2, ret(0, charged(s.ask(1, 0, "port"), s.ask(0, 1, "other"), op(api.IEmit, 0, 1), op(api.IEmit, 0, 0))...))
	u.Texts = s.texts
	r := calm()
	for have := range 6 {
		r.answers = answers[:min(have, 5)]
		wantEnd(t, "two in one call", u, r, map[bool]int{false: api.Waits, true: api.Trapped}[have > 3], map[bool]int{false: api.TrapNone, true: api.TrapAsks}[have > 3], 2+min(have, 4)/2)
	}
}

// P16.1, P16.3: a small function whose charge is the last that there is, and one whose charge is one more.
func TestLastCharge(t *testing.T) {
	var s sheet
	for count := 395; count <= 402; count++ {
		// So many charges ahead of a call of two charges, and one behind it.
		u := s.unit(ret(-1, slices.Concat(slices.Repeat(charged(), count), []api.Op{call(fnSay, 3, 1)}, charged(), []api.Op{op(api.IEmit, 0, 1)})...))
		u.Funcs[fnSay] = graph(1, ret(0, charged(op(api.IEmit, 0, 0), op(api.ICharge), op(api.IEmit, 0, 0))...))
		end, trap := api.Done, api.TrapNone
		if count+3 > api.MaxFuel {
			end, trap = api.Trapped, api.TrapFuel
		}
		wantEnd(t, fmt.Sprint(count, " charges"), u, calm(), end, trap, min(count+3, api.MaxFuel))
		// Of calls alone.
		u = s.unit(ret(-1, charged(slices.Repeat([]api.Op{call(fnNothing, -1, 0)}, count)...)...))
		end, trap = api.Done, api.TrapNone
		if count+1 > api.MaxFuel {
			end, trap = api.Trapped, api.TrapFuel
		}
		wantEnd(t, fmt.Sprint(count, " calls"), u, calm(), end, trap, min(count+1, api.MaxFuel))
	}
	// A round without an end: of one charge, a call, or of more of both, so that each of them is the last one.
	for more := range 5 {
		round := slices.Concat(charged(call(fnMark, -1, 0)), slices.Repeat([]api.Op{call(fnTruth, 2, 2), op(api.ICharge)}, more))
		u := s.unit(jump(1, charged()...), jump(1, round...))
		wantEnd(t, "a round", u, calm(), api.Trapped, api.TrapFuel, api.MaxFuel)
	}
}

// downTo: outer, called with n, calls itself n times, one within the other, and then does these instructions.
func (s *sheet) downTo(e []api.Op, last ...api.Op) api.Unit {
	u := s.unit(ret(-1, charged(e...)...))
	u.Funcs[fnOuter] = graph(5, unless(2, 1, 2, charged(s.num(1, 0), op(api.IGt, 2, 0, 1))...), ret(0, last...), ret(3, s.num(1, 1), op(api.ISub, 3, 0, 1), call(fnOuter, 3, 3)))
	u.Ints = s.ints
	return u
}

// P16.1, P16.3: a small function that is called so deep that one call more traps, and that call: by functions that call one another, by IEnter and by both.
func TestDepth(t *testing.T) {
	var s sheet
	for _, height := range []int{0, 1, 5, 11} {
		around := func(row ...api.Op) []api.Op { return slices.Concat(enters(height), row, leaves(height)) }
		for n := range 14 {
			// Open are the calls of outer (n + 1 of them) and what is entered; one more is the small one's.
			fuel, end, trap := 1+n+1+1, api.Done, api.TrapNone
			if open := n + 1 + height + 1; open > api.MaxCalls {
				fuel, end, trap = min(fuel-1, 1+api.MaxCalls), api.Trapped, api.TrapDepth
			}
			u := s.downTo([]api.Op{s.num(3, int64(n)), call(fnOuter, 4, 3)}, around(call(fnMark, -1, 0))...)
			wantEnd(t, fmt.Sprint(n, " calls, and height ", height, " within"), u, calm(), end, trap, fuel)
			if height+n+1 <= api.MaxCalls {
				u = s.downTo(slices.Concat([]api.Op{s.num(3, int64(n))}, around(call(fnOuter, 4, 3))), call(fnMark, -1, 0))
				wantEnd(t, fmt.Sprint("height ", height, ", and ", n, " calls within"), u, calm(), end, trap, fuel)
			}
		}
	}
}

// P16.1: at MaxCalls the call stays, and traps.
func TestDepthByHeight(t *testing.T) {
	var s sheet
	u := s.unit(ret(-1, charged(slices.Concat(enters(11), []api.Op{call(fnMark, -1, 0), op(api.IEnter), call(fnMark, -1, 0), op(api.ILeave)}, leaves(11))...)...))
	v := passed(t, u)
	if o := wantAlike(t, u, v, calm()); o.Trap != api.TrapDepth || o.Fuel != 2 {
		t.Errorf("P16.3: %s", shown(o))
	}
	if got := countCalls(v.Events[onE], fnMark); got != 1 {
		t.Errorf("P16.2: %d calls are left", got)
	}
}
