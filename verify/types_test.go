package verify_test

import (
	"fmt"
	"slices"
	"testing"

	"windlass/api"
	"windlass/code"
	"windlass/verify"
)

// The handler of all types: its params, one register without a type, and two more.
var standing = []api.Type{intType, textType, boolType, pair, flag, noType, intType, boolType}

// alone: the sample, its first handler with registers as they stand above, o as its fourth instruction, and an end.
func alone(o api.Op) api.Code {
	return with(onAll, len(standing), charge(), move(6, 0), move(7, 2), o, end())
}

// P11.3: each instruction with each number in each field: its needs, and what it gives.
func TestEachInstruction(t *testing.T) {
	taken := map[int]int{}
	for n := api.IInt; n <= api.IRet; n++ {
		for fields := range 9 * 9 * 8 * 12 {
			o := api.Op{Code: n, D: fields%9 - 1, A: fields/9%9 - 1, B: fields / 81 % 8, K: fields / 648}
			c := alone(o)
			if !code.Is(c) {
				continue
			}
			err := modelFault(c, onAll)
			wantFn := onAll
			if err == api.OK {
				wantFn = 0
				taken[n]++
			}
			fn, got := verify.Check(c)
			types, _ := verify.Types(c, onAll)
			list, _ := modelTypes(c, onAll)
			if fn != wantFn || got != err || err == api.OK && !sameTypes(types, list) {
				t.Fatalf("P11.3: %s: %d in %d, %v; want %d, %v", code.Line(o), got, fn, types, err, list)
			}
		}
	}
	// By hand. Two Ints, one Text, two Bools, a Pair, a Flag; eight registers that may be given.
	for n, count := range map[int]int{
		api.IInt: 8 * 3, api.IText: 8 * 2, api.IBool: 8 * 2, api.IMove: 8 * 7, api.IAdd: 8 * 4, api.IMod: 8 * 4, api.ICat: 8,
		api.IEq: 8 * (4 + 1 + 4), api.INe: 8 * 9, api.ILt: 8 * (4 + 1), api.IGe: 8 * 5, api.INeg: 8 * 2, api.INot: 8 * 2, api.ILen: 8, api.IStr: 8 * 2,
		api.IMake: 8 * (1 + 2), api.IField: 8 * (2 + 1), api.IGet: 8 * (2 + 1 + 2 + 1), api.IHas: 8 * 6,
		api.IPut: 2 + 2 + 2 + 2, api.IDel: 6, api.INext: 8 * 6 * 2, api.ICall: 9*1 + 8 + 9*1 + 9*8, api.IAsk: 8 * 2, api.IEmit: 1,
		api.IAfter: 2 + 2*8, api.ICharge: 1, api.IEnter: 0, api.ILeave: 0, api.IUnless: 2 * 2, api.IRet: 1,
	} {
		if taken[n] != count {
			t.Errorf("P11.3: %d: %d are taken, want %d", n, taken[n], count)
		}
	}
}

// P11.3: what each instruction gives, by hand.
func TestGiven(t *testing.T) {
	for _, r := range []struct {
		o    api.Op
		want api.Type
	}{
		{api.Op{Code: api.IInt}, intType}, {api.Op{Code: api.IText}, textType}, {api.Op{Code: api.IBool}, boolType},
		{api.Op{Code: api.IMove, A: 0}, intType}, {api.Op{Code: api.IMove, A: 1}, textType}, {api.Op{Code: api.IMove, A: 2}, boolType},
		{api.Op{Code: api.IMove, A: 3}, pair}, {api.Op{Code: api.IMove, A: 4}, flag},
		{api.Op{Code: api.IAdd, A: 0, B: 6}, intType}, {api.Op{Code: api.ISub, A: 0, B: 6}, intType}, {api.Op{Code: api.IMul, A: 0, B: 6}, intType},
		{api.Op{Code: api.IWAdd, A: 0, B: 6}, intType}, {api.Op{Code: api.IWSub, A: 0, B: 6}, intType}, {api.Op{Code: api.IWMul, A: 0, B: 6}, intType},
		{api.Op{Code: api.IDiv, A: 0, B: 6}, intType}, {api.Op{Code: api.IMod, A: 0, B: 6}, intType}, {api.Op{Code: api.ICat, A: 1, B: 1}, textType},
		{api.Op{Code: api.IEq, A: 0, B: 6}, boolType}, {api.Op{Code: api.INe, A: 1, B: 1}, boolType}, {api.Op{Code: api.IEq, A: 2, B: 7}, boolType},
		{api.Op{Code: api.ILt, A: 0, B: 6}, boolType}, {api.Op{Code: api.ILe, A: 1, B: 1}, boolType}, {api.Op{Code: api.IGt, A: 0, B: 6}, boolType}, {api.Op{Code: api.IGe, A: 1, B: 1}, boolType},
		{api.Op{Code: api.INeg, A: 6}, intType}, {api.Op{Code: api.INot, A: 7}, boolType}, {api.Op{Code: api.ILen, A: 1}, intType}, {api.Op{Code: api.IStr, A: 6}, textType},
		{api.Op{Code: api.IMake, A: 0, K: 0}, pair}, {api.Op{Code: api.IMake, A: 2, K: 1}, flag},
		{api.Op{Code: api.IField, A: 3, K: 0}, intType}, {api.Op{Code: api.IField, A: 3, K: 1}, textType}, {api.Op{Code: api.IField, A: 4, K: 0}, boolType},
		{api.Op{Code: api.IGet, A: 0, K: 0}, pair}, {api.Op{Code: api.IGet, A: 1, K: 1}, boolType}, {api.Op{Code: api.IGet, A: 0, K: 2}, textType}, {api.Op{Code: api.IGet, A: 1, K: 3}, intType},
		{api.Op{Code: api.IHas, A: 0, K: 0}, boolType}, {api.Op{Code: api.IHas, A: 1, K: 3}, boolType},
		{api.Op{Code: api.INext, A: 0, B: 2, K: 0}, boolType}, {api.Op{Code: api.INext, A: 1, B: 2, K: 3}, boolType},
		{api.Op{Code: api.ICall, A: 3, K: fnName}, textType}, {api.Op{Code: api.ICall, A: 6, K: fnSum}, intType}, {api.Op{Code: api.ICall, K: fnFlag}, flag},
		{api.Op{Code: api.IAsk, A: 1, K: 1}, textType},
	} {
		for d := range standing {
			r.o.D = d
			if r.o.Code == api.INext && d == r.o.A {
				continue
			}
			types, err := verify.Types(alone(r.o), onAll)
			behind := slices.Clone(standing)
			behind[d] = r.want
			if err != api.OK || !slices.Equal(types[3], standing) || !slices.Equal(types[4], behind) {
				t.Errorf("P11.3: %s: %v, %d", code.Line(r.o), types, err)
			}
		}
	}
	// Those that give nothing leave all types as they are.
	for _, o := range []api.Op{
		charge(), unless(2, 4), {Code: api.IPut, A: 0, B: 3, K: 0}, {Code: api.IDel, A: 1, K: 1}, {Code: api.IEmit, A: 1},
		{Code: api.IAfter, A: 0, K: 1}, {Code: api.IAfter, A: 6, B: 0, K: 0}, {Code: api.ICall, D: -1, A: 3}, {Code: api.ICall, D: -1, K: 1},
	} {
		types, err := verify.Types(alone(o), onAll)
		if err != api.OK || !slices.Equal(types[4], standing) {
			t.Errorf("P11.3: %s: %v, %d", code.Line(o), types, err)
		}
	}
}

// P11.3: an INext's A and B have their types behind it; a register that is D and B is a truth, one that is D and A neither a key by every way nor a truth.
func TestNext(t *testing.T) {
	for _, r := range []struct {
		d, a, b, k int
		want       api.Type
	}{{5, 0, 2, 0, boolType}, {2, 0, 2, 0, boolType}, {7, 1, 7, 3, boolType}, {0, 0, 2, 0, noType}, {1, 1, 7, 1, noType}, {6, 0, 2, 2, boolType}} {
		types, err := verify.Types(alone(api.Op{Code: api.INext, D: r.d, A: r.a, B: r.b, K: r.k}), onAll)
		behind := slices.Clone(standing)
		behind[r.d] = r.want
		if err != api.OK || !slices.Equal(types[4], behind) {
			t.Errorf("P11.3: %v: %v, %d", r, types, err)
		}
	}
	next := api.Op{Code: api.INext, D: 0, A: 0, B: 2}
	for _, o := range []api.Op{move(5, 0), unless(0, 5), {Code: api.INeg, A: 0}, {Code: api.IStr, A: 0}} {
		c := with(onAll, 8, charge(), next, o, end(), charge(), end())
		wantErr(t, "a register that is D and A: "+code.Line(o), c, onAll, api.ErrVerifyType)
	}
}

// P11.3: the ends of all functions, with registers of all types, and with none.
func TestResults(t *testing.T) {
	for fn := range functionCount {
		for a := -1; a < 8; a++ {
			c := sample()
			f := body(&c, fn)
			params := len(sigOf(c, fn).Params)
			ops := []api.Op{charge()}
			types := slices.Clone(sigOf(c, fn).Params)
			// Behind the params: a number, a text, a truth, and of these a pair and a flag; then one without a type.
			for _, o := range []api.Op{number(params), text(params + 1), truth(params + 2), record(params+3, params, 0), record(params+4, params+2, 1)} {
				ops = append(ops, o)
			}
			types = append(types, intType, textType, boolType, pair, flag, noType, noType, noType, noType)
			*f = api.Fn{Regs: params + 9, Ops: append(ops, ret(a))}
			expected := a == -1
			if result := sigOf(c, fn).Result; result != noType {
				expected = a >= 0 && types[a] == result
			}
			gotFn, err := verify.Check(c)
			if expected && err != api.OK || !expected && (err != api.ErrVerifyType || gotFn != fn) {
				t.Errorf("P11.3: ret %d of %d: %d in %d", a, fn, err, gotFn)
			}
		}
	}
}

// P11.3: where ways meet.
func TestTypesThatMeet(t *testing.T) {
	sum, cat := api.Op{Code: api.IAdd}, api.Op{Code: api.ICat}
	for _, r := range []struct {
		what string
		ops  []api.Op
		err  api.Errno
	}{
		{"alike", []api.Op{charge(), truth(2), unless(2, 5), number(0), jump(6), number(0), sum, end()}, api.OK},
		{"unlike, and used", []api.Op{charge(), truth(2), unless(2, 5), number(0), jump(6), text(0), move(1, 0), end()}, api.ErrVerifyType},
		{"unlike, not used", []api.Op{charge(), truth(2), unless(2, 5), number(0), jump(6), text(0), move(1, 2), end()}, api.OK},
		{"unlike, given anew", []api.Op{charge(), truth(2), unless(2, 5), number(0), jump(6), text(0), number(0), sum, end()}, api.OK},
		{"by one way alone", []api.Op{charge(), truth(2), unless(2, 4), number(0), sum, end()}, api.ErrVerifyType},
		{"unlike records", []api.Op{charge(), number(0), text(1), truth(2), unless(2, 7), record(3, 0, 0), jump(8), record(3, 2, 1), move(4, 3), end()}, api.ErrVerifyType},
		{"unlike records with a field each", []api.Op{charge(), number(0), text(1), truth(2), unless(2, 7), record(3, 0, 0), jump(8), record(3, 2, 1), {Code: api.IField, D: 4, A: 3}, end()}, api.ErrVerifyType},
		{"one record", []api.Op{charge(), number(0), text(1), truth(2), unless(2, 7), record(3, 0, 0), jump(8), record(3, 0, 0), {Code: api.IField, D: 4, A: 3}, end()}, api.OK},
		{"a loop that changes a type", []api.Op{charge(), number(0), charge(), sum, text(0), jump(2)}, api.ErrVerifyType},
		{"a loop that changes it back", []api.Op{charge(), number(0), charge(), sum, text(0), cat, number(0), jump(2)}, api.OK},
		{"a loop that gives it first", []api.Op{charge(), charge(), number(0), sum, text(0), jump(1)}, api.OK},
		{"the first instruction is met again", []api.Op{charge(), number(0), sum, jump(0)}, api.OK},
		{"what isn't reached meets nothing", []api.Op{charge(), number(0), jump(4), text(0), sum, end()}, api.OK},
		{"what isn't reached needs nothing", []api.Op{charge(), end(), sum, move(7, 6), ret(5)}, api.OK},
		{"a use, then a fault", []api.Op{charge(), number(0), sum, text(0), sum, end()}, api.ErrVerifyType},
		{"two ways from one unless", []api.Op{charge(), truth(0), unless(0, 3), move(1, 0), end()}, api.OK},
	} {
		fn := onNothing
		if r.err == api.OK {
			fn = 0
		}
		wantErr(t, r.what, handler(r.ops...), fn, r.err)
	}
}

// P11.3: the first instruction is met again by a loop: its params may have other types then.
func TestParamsInALoop(t *testing.T) {
	wantErr(t, "a param that stays", with(onTwo, 2, charge(), api.Op{Code: api.ILen, D: 1, A: 0}, jump(0)), 0, api.OK)
	wantErr(t, "a param that changes", with(onTwo, 2, charge(), api.Op{Code: api.ILen, D: 0, A: 0}, jump(0)), onTwo, api.ErrVerifyType)
	types, err := verify.Types(with(onTwo, 3, charge(), text(1), number(2), jump(0)), onTwo)
	if err != api.OK || fmt.Sprint(types) != "[[{2 0} {0 0} {0 0}] [{2 0} {0 0} {0 0}] [{2 0} {2 0} {0 0}] [{2 0} {2 0} {1 0}]]" {
		t.Errorf("P11.4: %v, %d", types, err)
	}
}
