package vm_test

import (
	"slices"
	"testing"

	"windlass/api"
	"windlass/verify"
	"windlass/vm"
)

// traced: both of Trace's numbers.
func traced(t *testing.T, c api.Code, s api.State, e api.Event, answers []string, waiting int) [2]int {
	t.Helper()
	done, longest, err := vm.Trace(c, s, e, answers, waiting)
	if err != api.OK {
		t.Fatalf("P12.4: %d", err)
	}
	return [2]int{done, longest}
}

// P12.4: rows end at charges; instructions that trap or wait count.
func TestTrace(t *testing.T) {
	zeroDivided := []api.Op{set(1, zero), op(api.IDiv, 1, 1, 1)}
	for what, r := range map[string]struct {
		ops     []api.Op
		answers []string
		want    [2]int
	}{
		"just its end": {nil, nil, [2]int{2, 1}}, "charges alone": {times(5, charge()), nil, [2]int{7, 1}},
		"the first row":      {slices.Concat(times(4, set(1, one)), []api.Op{charge(), set(1, one)}), nil, [2]int{8, 4}},
		"the last row":       {slices.Concat(times(2, set(1, one)), []api.Op{charge()}, times(3, set(1, one))), nil, [2]int{8, 4}},
		"a row between":      {slices.Concat([]api.Op{set(1, one), charge()}, times(3, set(1, one)), []api.Op{charge()}), nil, [2]int{8, 3}},
		"a trap":             {append(zeroDivided, times(9, set(1, one))...), nil, [2]int{3, 2}},
		"it waits":           {[]api.Op{set(1, one), charge(), ask(1, 0, port), set(1, one)}, nil, [2]int{4, 1}},
		"it waits later":     {[]api.Op{ask(1, 0, port), ask(1, 0, port), ask(1, 0, port)}, []string{"a"}, [2]int{3, 2}},
		"a loop":             {[]api.Op{set(1, one), jump(0)}, nil, [2]int{1 + 400*3, 2}},
		"no more fuel":       {append(times(399, charge()), set(1, one), set(1, one), charge()), nil, [2]int{403, 2}},
		"a call":             {[]api.Op{set(1, one), call(-1, 0, fnNothing), set(1, one), set(1, one)}, nil, [2]int{8, 4}},
		"two calls":          {[]api.Op{call(-1, 0, fnNothing), call(-1, 0, fnNothing)}, nil, [2]int{8, 2}},
		"no depth":           {slices.Concat(times(12, enter()), []api.Op{call(-1, 0, fnNothing)}, times(12, leave())), nil, [2]int{14, 13}},
		"entries":            {slices.Concat(times(12, enter()), times(12, leave())), nil, [2]int{26, 25}},
		"a way round":        {[]api.Op{be(1, 0), unless(1, 5), set(1, one), set(1, one)}, nil, [2]int{4, 3}},
		"too many emissions": {times(20, emit(0)), nil, [2]int{14, 13}},
	} {
		c := coded([]api.Type{textType}, r.ops...)
		if fn, err := verify.Check(c); err != api.OK {
			t.Fatalf("%s: %d in %d", what, err, fn)
		}
		if got := traced(t, c, blank(), eventOf(texted("q")), r.answers, 0); got != r.want {
			t.Errorf("P12.4: %s: %v, want %v", what, got, r.want)
		}
	}
}

// P12.5: the longest row that may be: twelve calls, each with many instructions behind it, and no charge among them.
func TestLongestRow(t *testing.T) {
	for _, filling := range []int{0, 1, 2, 100, api.MaxOps - 11} {
		c := coded([]api.Type{intType, intType})
		idle := times(filling, set(2, one))
		c.Funcs[fnAdd] = api.Fn{Regs: 5, Ops: slices.Concat([]api.Op{
			charge(), set(2, one), set(3, zero), op(api.INe, 4, 0, 3), unless(4, 7+filling), op(api.ISub, 0, 0, 2), call(1, 0, fnAdd),
		}, idle, []api.Op{ret(1)})}
		c.Events[onE].Ops = slices.Concat([]api.Op{charge(), call(2, 0, fnAdd)}, idle, []api.Op{end()})
		got := traced(t, c, blank(), eventOf(numbered(11), numbered(0)), nil, 0)
		want := [2]int{2 + 12*5 + 11*(2+filling+1) + 1 + filling + 1, 5 + 11*(filling+1) + filling + 1}
		if bound, err := verify.Bound(c); err != api.OK || got != want || got[1] > bound {
			t.Errorf("P12.5: %d: %v, want %v; Bound %d, %d", filling, got, want, bound, err)
		}
	}
}
