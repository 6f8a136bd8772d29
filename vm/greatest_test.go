package vm_test

import (
	"slices"
	"testing"
	"time"

	"windlass/api"
)

// The longest runs that may be, of instructions that have much to do, come to their end, and not too late.
func TestGreatest(t *testing.T) {
	record, _ := wideOf()
	for what, o := range map[string]api.Op{
		"IGet": op(api.IGet, 3, 0, 0, numbers), "IHas": op(api.IHas, 3, 0, 0, numbers), "INext": op(api.INext, 3, 0, 4, numbers),
		"IMake": op(api.IMake, 3, 5, 0, 0), "IField": op(api.IField, 3, 1, 0, 11), "IMove": op(api.IMove, 3, 1), "IWMul": op(api.IWMul, 3, 0, 0), "IEq": op(api.IEq, 3, 6, 6), "ICat": op(api.ICat, 3, 6, 7),
	} {
		args := []api.Value{numbered(46), record, numbered(99)}
		c := coded(typesOf(args))
		c.Events[onE].Ops = slices.Concat([]api.Op{charge(), be(4, 1), set(5, one), say(6, port), say(7, empty)}, times(api.MaxOps-6, o), []api.Op{jump(0)})
		begun := time.Now()
		outcome := run(t, c, full(), eventOf(args...), nil, 0)
		if took := time.Since(begun); took > time.Minute {
			t.Errorf("%s took %v", what, took)
		}
		wantTrap(t, what, outcome, api.TrapFuel, full())
		if got := traced(t, c, full(), eventOf(args...), nil, 0); got != [2]int{400*api.MaxOps + 1, api.MaxOps - 1} {
			t.Errorf("P12.4: %s: %v", what, got)
		}
	}
}

// Keys are taken out and put again, round by round, in a map that is full and stays so.
func TestChanges(t *testing.T) {
	args := []api.Value{numbered(20), numbered(21)}
	rounds := times(25, op(api.IDel, 0, 0, 0, numbers), put(1, 0, numbers), op(api.IDel, 0, 1, 0, numbers), put(0, 1, numbers))
	c := coded(typesOf(args), slices.Concat(
		[]api.Op{set(2, many), set(3, one), set(4, zero), charge()}, rounds,
		[]api.Op{op(api.ISub, 2, 2, 3), op(api.IEq, 5, 2, 4), unless(5, 4)})...)
	o := run(t, c, full(), eventOf(args...), nil, 0)
	want := full()
	want.Maps[numbers][10].Value = numbered(21)
	if wantDone(t, "changes", o); shown(o.State) != shown(want) || o.Fuel != 25 {
		t.Errorf("P9.1: %s", shown(o))
	}
}
