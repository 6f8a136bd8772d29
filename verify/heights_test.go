package verify_test

import (
	"fmt"
	"slices"
	"testing"

	"windlass/api"
	"windlass/verify"
)

// rowsOf: all rows of count instructions of these.
func rowsOf(count int, of []api.Op) [][]api.Op {
	rows := [][]api.Op{nil}
	for range count {
		var longer [][]api.Op
		for _, r := range rows {
			for _, o := range of {
				longer = append(longer, append(slices.Clone(r), o))
			}
		}
		rows = longer
	}
	return rows
}

// P11.1, P11.2: all handlers of a charge and up to four instructions that tell of ways and heights; register 0 is a truth.
func TestAllShortOnes(t *testing.T) {
	seen := map[api.Errno]int{}
	for count := range 5 {
		of := []api.Op{charge(), enter(), leave(), end()}
		for to := range count + 1 {
			of = append(of, jump(to), unless(0, to))
		}
		for _, ops := range rowsOf(count, of) {
			c := sample()
			c.Program.Events[2].Params = []api.Type{boolType}
			c.Events[2] = api.Fn{Regs: 1, Ops: append([]api.Op{charge()}, ops...)}
			wantFn, wantErr := modelCheck(c)
			if fn, err := verify.Check(c); fn != wantFn || err != wantErr {
				t.Errorf("P11.2: %v: %d in %d, want %d in %d", c.Events[2].Ops, err, fn, wantErr, wantFn)
			}
			seen[wantErr]++
		}
	}
	for _, err := range []api.Errno{api.OK, api.ErrVerifyJump, api.ErrVerifyEnd, api.ErrVerifyHeight} {
		if seen[err] < 100 {
			t.Errorf("%d is seen %d times", err, seen[err])
		}
	}
}

// P11.2: rows of entries and leavings around MaxCalls.
func TestMostEntries(t *testing.T) {
	for enters := range 16 {
		for leaves := range 16 {
			ops := append([]api.Op{charge()}, slices.Repeat([]api.Op{enter()}, enters)...)
			ops = append(ops, slices.Repeat([]api.Op{leave()}, leaves)...)
			fn, err := onNothing, api.ErrVerifyHeight
			if enters == leaves && enters <= 12 {
				fn, err = 0, api.OK
			}
			wantErr(t, fmt.Sprint(enters, " enters, ", leaves, " leaves"), handler(append(ops, end())...), fn, err)
		}
	}
}

// P11.2: an end that is never come to may be at any height; the height itself mayn't.
func TestHeightsWithoutAnEnd(t *testing.T) {
	for enters := range 20 {
		ops := append([]api.Op{charge()}, slices.Repeat([]api.Op{enter()}, enters)...)
		ops = append(ops, charge(), jump(len(ops)))
		fn, err := 0, api.OK
		if enters > 12 {
			fn, err = onNothing, api.ErrVerifyHeight
		}
		wantErr(t, fmt.Sprint(enters, " enters and a loop"), handler(ops...), fn, err)
		if enters > 0 {
			round := append(slices.Clone(ops[:len(ops)-1]), jump(0))
			wantErr(t, fmt.Sprint(enters, " enters, round and round"), handler(round...), onNothing, api.ErrVerifyHeight)
		}
	}
}

// P11.2: ways that meet.
func TestHeightsThatMeet(t *testing.T) {
	for _, r := range []struct {
		what string
		ops  []api.Op
		err  api.Errno
	}{
		{"alike", []api.Op{charge(), truth(0), unless(0, 5), enter(), jump(6), enter(), leave(), end()}, api.OK},
		{"one more", []api.Op{charge(), truth(0), unless(0, 5), enter(), jump(7), enter(), leave(), end()}, api.ErrVerifyHeight},
		{"one less", []api.Op{charge(), truth(0), enter(), unless(0, 5), leave(), leave(), end()}, api.ErrVerifyHeight},
		{"unlike, but not at an end", []api.Op{charge(), truth(0), unless(0, 4), enter(), charge(), jump(4)}, api.ErrVerifyHeight},
		{"a loop that rises", []api.Op{charge(), enter(), jump(0)}, api.ErrVerifyHeight},
		{"a loop that sinks", []api.Op{charge(), enter(), charge(), leave(), jump(2)}, api.ErrVerifyHeight},
		{"a loop that rises and sinks", []api.Op{charge(), enter(), leave(), jump(0)}, api.OK},
		{"a loop within an entry", []api.Op{charge(), truth(0), enter(), charge(), unless(0, 3), leave(), end()}, api.OK},
		{"an unless over a leave", []api.Op{charge(), truth(0), enter(), unless(0, 5), leave(), end()}, api.ErrVerifyHeight},
		{"below 0 and back", []api.Op{charge(), leave(), enter(), end()}, api.ErrVerifyHeight},
		{"below 0 for ever", []api.Op{charge(), leave(), charge(), jump(2)}, api.ErrVerifyHeight},
		{"below 0, not reached", []api.Op{charge(), end(), leave(), enter(), end()}, api.OK},
		{"an end within an entry, not reached", []api.Op{charge(), end(), enter(), end()}, api.OK},
		{"an end within an entry, one of two", []api.Op{charge(), truth(0), unless(0, 5), enter(), end(), end()}, api.ErrVerifyHeight},
		{"what isn't reached meets nothing", []api.Op{charge(), jump(3), enter(), end()}, api.OK},
		{"a call changes none", []api.Op{charge(), enter(), {Code: api.ICall, D: -1, K: 1}, leave(), end()}, api.OK},
	} {
		fn := onNothing
		if r.err == api.OK {
			fn = 0
		}
		wantErr(t, r.what, handler(r.ops...), fn, r.err)
	}
}
