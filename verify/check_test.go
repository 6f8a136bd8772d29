package verify_test

import (
	"fmt"
	"math"
	"strings"
	"testing"

	"windlass/api"
	"windlass/verify"
)

// wantErr: of function fn of c; and what the model says of it.
func wantErr(t *testing.T, what string, c api.Code, fn int, err api.Errno) {
	t.Helper()
	gotFn, got := verify.Check(c)
	if gotFn != fn || got != err {
		t.Errorf("%s: %d in %d, want %d in %d", what, got, gotFn, err, fn)
	}
	want(t, what, c)
}

// The chapter's examples, and codes that are taken.
func TestExamples(t *testing.T) {
	wantErr(t, "charge, ret", handler(charge(), end()), 0, api.OK)
	wantErr(t, "charge, jump to itself", handler(charge(), jump(1)), onNothing, api.ErrVerifyJump)
	wantErr(t, "charge, jump to the charge", handler(charge(), jump(0)), 0, api.OK)
	wantErr(t, "the sample", sample(), 0, api.OK)
	wantErr(t, "nothing", api.Code{}, 0, api.OK)
}

// P11.1: what code.Is refuses, wherever: ErrVerifyShape and 0, ahead of all else.
func TestNoCode(t *testing.T) {
	for what, spoil := range map[string]func(c *api.Code){
		"a function too few":         func(c *api.Code) { c.Funcs = c.Funcs[:3] },
		"a handler too many":         func(c *api.Code) { c.Events = append(c.Events, c.Events[0]) },
		"no instructions":            func(c *api.Code) { c.Events[1].Ops = nil },
		"too many instructions":      func(c *api.Code) { c.Events[1].Ops = append(charges(api.MaxOps), end()) },
		"too many registers":         func(c *api.Code) { c.Events[1].Regs = api.MaxRegs + 1 },
		"fewer registers than needs": func(c *api.Code) { c.Events[0].Regs = 4 },
		"registers below 0":          func(c *api.Code) { c.Events[1].Regs = -1 },
		"a register beyond":          func(c *api.Code) { c.Events[2].Ops[0] = number(2) },
		"a far register":             func(c *api.Code) { c.Events[2].Ops[0] = move(0, math.MaxInt) },
		"a constant beyond":          func(c *api.Code) { c.Events[2].Ops[0] = api.Op{Code: api.IInt, K: 3} },
		"a jump beyond":              func(c *api.Code) { c.Events[2].Ops[1] = jump(2) },
		"a jump below 0":             func(c *api.Code) { c.Events[2].Ops[1] = jump(-1) },
		"a field too many":           func(c *api.Code) { c.Events[2].Ops[1].K = 1 },
		"no instruction":             func(c *api.Code) { c.Events[2].Ops[1] = api.Op{Code: 41} },
		"no program":                 func(c *api.Code) { c.Program.Maps[0].Key = boolType },
		"a text that is too long":    func(c *api.Code) { c.Texts[0] = strings.Repeat("a", api.MaxText+1) },
	} {
		c := sample()
		spoil(&c)
		wantErr(t, what, c, 0, api.ErrVerifyShape)
		// A function with a fault of its own ahead of it changes nothing.
		c.Funcs[2].Ops = charges(1)
		wantErr(t, what+", behind another fault", c, 0, api.ErrVerifyShape)
		if what == "a function too few" {
			continue
		}
		if _, err := verify.Types(c, 0); err != api.ErrVerifyShape {
			t.Errorf("P11.4: %s: %d", what, err)
		}
	}
}

// faulty: instructions of a function of eight registers with one fault each, in the chapter's order; register 7 has no type ahead of them.
var faulty = []struct {
	err api.Errno
	ops []api.Op
}{
	{api.ErrVerifyShape, []api.Op{truth(7), charge(), end()}},
	{api.ErrVerifyJump, []api.Op{charge(), end(), jump(1)}},
	{api.ErrVerifyEnd, []api.Op{charge(), charge()}},
	{api.ErrVerifyHeight, []api.Op{charge(), enter(), end()}},
	{api.ErrVerifyType, []api.Op{charge(), move(1, 7), end()}},
}

// P11.1: each fault in each function is told with the function's number.
func TestWhichFunction(t *testing.T) {
	for _, f := range faulty {
		for fn := range functionCount {
			wantErr(t, fmt.Sprint(f.err, " in ", fn), with(fn, 8, f.ops...), fn, f.err)
		}
	}
}

// P11.1: of faults in two functions the first function's is told, whichever it is.
func TestFaultsOfTwoFunctions(t *testing.T) {
	for _, one := range faulty {
		for _, other := range faulty {
			for first := range functionCount {
				for second := first + 1; second < functionCount; second++ {
					c := with(first, 8, one.ops...)
					*body(&c, second) = api.Fn{Regs: 8, Ops: other.ops}
					wantErr(t, fmt.Sprint(one.err, " ahead of ", other.err), c, first, one.err)
				}
			}
		}
	}
}

// P11.1: of several faults of one function the first in the chapter's order, wherever they stand.
func TestFaultsOfOneFunction(t *testing.T) {
	untyped, back := move(1, 0), jump(2)
	for _, r := range []struct {
		what string
		ops  []api.Op
		err  api.Errno
	}{
		{"all", []api.Op{untyped, enter(), back, back, charge()}, api.ErrVerifyShape},
		{"all but the shape", []api.Op{charge(), untyped, unless(7, 2), enter(), charge()}, api.ErrVerifyJump},
		{"a jump behind an end", []api.Op{charge(), untyped, enter(), end(), jump(3)}, api.ErrVerifyJump},
		{"end, height, type", []api.Op{charge(), untyped, leave(), charge()}, api.ErrVerifyEnd},
		{"end by an unless", []api.Op{charge(), untyped, leave(), unless(0, 0)}, api.ErrVerifyEnd},
		{"height, type", []api.Op{charge(), untyped, leave(), end()}, api.ErrVerifyHeight},
		{"height and a result", []api.Op{charge(), truth(0), enter(), ret(0)}, api.ErrVerifyHeight},
		{"height of a later one", []api.Op{charge(), untyped, charge(), enter(), leave(), leave(), end()}, api.ErrVerifyHeight},
		{"type alone", []api.Op{charge(), untyped, enter(), leave(), end()}, api.ErrVerifyType},
	} {
		wantErr(t, r.what, handler(r.ops...), onNothing, r.err)
	}
}

// P11.1: the first instruction.
func TestFirst(t *testing.T) {
	for code := api.IInt; code <= api.IRet; code++ {
		o := api.Op{Code: code}
		err := api.ErrVerifyShape
		if code == api.ICharge {
			err = api.OK
		}
		fn := onNothing
		if err == api.OK {
			fn = 0
		}
		wantErr(t, fmt.Sprint("first ", code), handler(o, charge(), end()), fn, err)
	}
}

// P11.1: the last instruction, reached or not.
func TestLast(t *testing.T) {
	for code := api.IInt; code <= api.IRet; code++ {
		o := api.Op{Code: code}
		ops := []api.Op{charge(), number(0), o}
		fault := api.ErrVerifyEnd
		switch code {
		case api.IJump:
			fault = api.OK
		case api.IRet:
			// With register 0: a handler has no result.
			fault = api.ErrVerifyType
		}
		fn := onNothing
		if fault == api.OK {
			fn = 0
		}
		wantErr(t, fmt.Sprint("last ", code), handler(ops...), fn, fault)
		wantErr(t, fmt.Sprint("last, not reached ", code), handler(charge(), end(), o), 0, api.OK)
	}
	wantErr(t, "reached by a jump alone", handler(charge(), jump(3), end(), charge()), onNothing, api.ErrVerifyEnd)
	wantErr(t, "reached by an unless alone", handler(charge(), truth(0), unless(0, 4), end(), charge()), onNothing, api.ErrVerifyEnd)
	wantErr(t, "jumped to by what isn't reached", handler(charge(), end(), jump(3), charge()), 0, api.OK)
}

// P11.1: jumps of both kinds to each instruction from each one, to a charge or not, reached or not.
func TestJumps(t *testing.T) {
	const count = 6
	for _, o := range []api.Op{jump(0), unless(0, 0)} {
		for at := 2; at < count; at++ {
			for to := range count {
				for mask := range 1 << count {
					ops := []api.Op{charge(), truth(0)}
					for i := 2; i < count; i++ {
						ops = append(ops, charge())
						if mask>>i&1 == 0 {
							ops[i] = truth(0)
						}
					}
					if mask&1 == 0 {
						ops[1] = end()
					}
					o.K = to
					ops[at] = o
					want(t, fmt.Sprint("a jump from ", at, " to ", to), handler(append(ops, end())...))
				}
			}
		}
	}
}

// P11.1: a jump back to a charge, to what stands beside it, to itself; on to what is no charge.
func TestJumpsByHand(t *testing.T) {
	for _, r := range []struct {
		what string
		ops  []api.Op
		err  api.Errno
	}{
		{"back to the second charge", []api.Op{charge(), charge(), jump(1)}, api.OK},
		{"back to behind it", []api.Op{charge(), truth(0), jump(1)}, api.ErrVerifyJump},
		{"an unless back", []api.Op{charge(), truth(0), unless(0, 0), end()}, api.OK},
		{"an unless back to no charge", []api.Op{charge(), truth(0), unless(0, 1), end()}, api.ErrVerifyJump},
		{"an unless to itself", []api.Op{charge(), truth(0), unless(0, 2), end()}, api.ErrVerifyJump},
		{"an unless to the next", []api.Op{charge(), truth(0), unless(0, 3), end()}, api.OK},
		{"a jump to the next", []api.Op{charge(), jump(2), end()}, api.OK},
		{"a jump on over what isn't reached", []api.Op{charge(), jump(3), move(0, 0), end()}, api.OK},
		{"not reached, back to no charge", []api.Op{charge(), end(), truth(0), jump(2)}, api.ErrVerifyJump},
		{"not reached, to itself", []api.Op{charge(), end(), jump(2)}, api.ErrVerifyJump},
		{"not reached, an unless back to an end", []api.Op{charge(), end(), unless(0, 1), end()}, api.ErrVerifyJump},
		{"not reached, back to a charge", []api.Op{charge(), end(), jump(0)}, api.OK},
		{"not reached, on to no charge", []api.Op{charge(), end(), jump(3), end()}, api.OK},
		{"back to an enter", []api.Op{charge(), enter(), leave(), jump(1)}, api.ErrVerifyJump},
	} {
		fn := onNothing
		if r.err == api.OK {
			fn = 0
		}
		wantErr(t, r.what, handler(r.ops...), fn, r.err)
	}
}
