package verify_test

import (
	"fmt"
	"math"
	"slices"
	"strconv"
	"testing"
	"time"

	"windlass/api"
	"windlass/verify"
)

// P11.4: Bound goes by the longest function, whichever it is.
func TestBound(t *testing.T) {
	for fn := range functionCount {
		for _, length := range []int{5, 6, 100, api.MaxOps - 1, api.MaxOps} {
			c := sample()
			f := body(&c, fn)
			f.Ops = append(charges(length-len(f.Ops)), f.Ops...)
			if bound, err := verify.Bound(c); bound != 14*(length+1) || err != api.OK {
				t.Errorf("P11.4: %d instructions in %d: %d, %d", length, fn, bound, err)
			}
		}
	}
	for _, r := range []struct {
		c    api.Code
		want int
	}{{sample(), 14 * 5}, {api.Code{}, 14}, {api.Code{Program: api.Program{Events: []api.Sig{{Name: "e"}}}, Events: []api.Fn{{Ops: []api.Op{charge(), jump(0)}}}}, 14 * 3}} {
		if bound, err := verify.Bound(r.c); bound != r.want || err != api.OK {
			t.Errorf("P11.4: %d, %d; want %d", bound, err, r.want)
		}
	}
	// Instructions that aren't reached count, too.
	if bound, err := verify.Bound(handler(append([]api.Op{charge(), end()}, charges(40)...)...)); bound != 14*43 || err != api.OK {
		t.Errorf("P11.4: %d, %d", bound, err)
	}
}

// P11.4: Check's error, and nothing beside it.
func TestErrorsOfTypesAndBound(t *testing.T) {
	for _, f := range faulty {
		for fn := range functionCount {
			c := with(fn, 8, f.ops...)
			if bound, err := verify.Bound(c); bound != 0 || err != f.err {
				t.Errorf("P11.4: Bound: %d, %d; want %d", bound, err, f.err)
			}
			for _, asked := range []int{fn, 0, functionCount, -1, math.MinInt, math.MaxInt} {
				if types, err := verify.Types(c, asked); len(types) > 0 || err != f.err {
					t.Errorf("P11.4: Types of %d: %v, %d; want %d", asked, types, err, f.err)
				}
			}
		}
	}
}

// P11.4: numbers that are no function's.
func TestNoFunction(t *testing.T) {
	for _, fn := range []int{-1, -2, functionCount, functionCount + 1, 64, 1 << 32, 1<<32 + 1, -1 << 32, math.MinInt, math.MaxInt} {
		if types, err := verify.Types(sample(), fn); len(types) > 0 || err != api.ErrVerifyShape {
			t.Errorf("P11.4: %d: %v, %d", fn, types, err)
		}
	}
	if types, err := verify.Types(api.Code{}, 0); len(types) > 0 || err != api.ErrVerifyShape {
		t.Errorf("P11.4: of no function: %v, %d", types, err)
	}
	onlyFuncs := api.Code{Program: api.Program{Funcs: []api.Sig{{Name: "f"}}}, Funcs: []api.Fn{{Ops: []api.Op{charge(), end()}}}}
	if _, err := verify.Types(onlyFuncs, 1); err != api.ErrVerifyShape {
		t.Errorf("P11.4: behind the functions: %d", err)
	}
}

// P11.4: written out; handlers behind functions; instructions that aren't reached; no registers at all.
func TestTypesByHand(t *testing.T) {
	for _, r := range []struct {
		c    api.Code
		fn   int
		want string
	}{
		{sample(), fnName, "[[{4 0} {0 0}] [{4 0} {0 0}] [{4 0} {2 0}]]"},
		{sample(), fnNothing, "[[] []]"},
		{sample(), fnFlag, "[[{0 0} {0 0}] [{0 0} {0 0}] [{3 0} {0 0}] [{3 0} {4 1}]]"},
		{sample(), onAll, "[[{1 0} {2 0} {3 0} {4 0} {4 1}] [{1 0} {2 0} {3 0} {4 0} {4 1}]]"},
		{sample(), onNothing, "[[] []]"},
		{sample(), onTwo, "[[{2 0} {1 0}] [{2 0} {1 0}]]"},
		{with(onTwo, 2, charge(), jump(3), number(0), charge(), end(), text(1)), onTwo, "[[{2 0} {1 0}] [{2 0} {1 0}] [] [{2 0} {1 0}] [{2 0} {1 0}] []]"},
		{with(onTwo, 3, charge(), truth(2), unless(2, 5), number(0), charge(), end()), onTwo, "[[{2 0} {1 0} {0 0}] [{2 0} {1 0} {0 0}] [{2 0} {1 0} {3 0}] [{2 0} {1 0} {3 0}] [{1 0} {1 0} {3 0}] [{0 0} {1 0} {3 0}]]"},
		{with(onNothing, 0, charge(), charge(), jump(0)), onNothing, "[[] [] []]"},
	} {
		if types, err := verify.Types(r.c, r.fn); err != api.OK || fmt.Sprint(types) != r.want {
			t.Errorf("P11.4: of %d: %v, %d; want %s", r.fn, types, err, r.want)
		}
		want(t, "by hand", r.c)
	}
}

// greatest: as many functions, registers and instructions as may be; its loops meet one another again and again, and the types of the registers are lost one by one.
func greatest() api.Code {
	var c api.Code
	c.Ints, c.Texts = []int64{0}, []string{""}
	ops := []api.Op{charge()}
	for register := range api.MaxRegs {
		ops = append(ops, truth(register))
	}
	first := len(ops)
	for len(ops) < api.MaxOps-3 {
		// Each way back to an earlier charge has a register with another type.
		register := (len(ops) - first) / 3 % (api.MaxRegs - 1)
		ops = append(ops, charge(), number(1+register), unless(0, first+(len(ops)-first)/3/2*3))
	}
	ops = append(ops, charge())
	for len(ops) < api.MaxOps {
		ops = append(ops, jump(first))
	}
	for i := range api.MaxDecls {
		c.Program.Funcs = append(c.Program.Funcs, api.Sig{Name: "f" + strconv.Itoa(i)})
		c.Program.Events = append(c.Program.Events, api.Sig{Name: "e" + strconv.Itoa(i)})
		c.Funcs = append(c.Funcs, api.Fn{Regs: api.MaxRegs, Ops: slices.Clone(ops)})
		c.Events = append(c.Events, api.Fn{Regs: api.MaxRegs, Ops: slices.Clone(ops)})
	}
	return c
}

// The greatest code that may be is looked at within a time that doesn't grow with the ways through it.
func TestGreatest(t *testing.T) {
	c := greatest()
	begun := time.Now()
	if fn, err := verify.Check(c); fn != 0 || err != api.OK {
		t.Fatalf("%d in %d", err, fn)
	}
	if took := time.Since(begun); took > 20*time.Second {
		t.Errorf("Check took %v", took)
	}
	for _, fn := range []int{0, 15, 16, 31} {
		types, err := verify.Types(c, fn)
		if err != api.OK || len(types) != api.MaxOps || len(types[api.MaxOps-2]) != api.MaxRegs || types[1][0] != noType || types[2][0] != boolType {
			t.Errorf("P11.4: %d: %d, %d instructions", fn, err, len(types))
		}
	}
	if bound, err := verify.Bound(c); bound != 14*2001 || err != api.OK {
		t.Errorf("P11.4: %d, %d", bound, err)
	}
}

// Many ways to one place: as many as there are choices of all unlesses ahead of it.
func TestManyWays(t *testing.T) {
	for _, last := range []api.Op{number(5), text(5)} {
		ops := []api.Op{charge(), truth(0)}
		for len(ops) < api.MaxOps-8 {
			ops = append(ops, unless(0, len(ops)+2), number(1+len(ops)%7))
		}
		ops = append(ops, number(5), unless(0, len(ops)+3), last, api.Op{Code: api.INeg, D: 6, A: 5}, end())
		fn, err := verify.Check(handler(ops...))
		if last.Code == api.IInt && err != api.OK || last.Code == api.IText && (err != api.ErrVerifyType || fn != onNothing) {
			t.Errorf("P11.3: %d in %d", err, fn)
		}
	}
}
