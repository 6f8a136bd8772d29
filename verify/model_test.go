package verify_test

import (
	"slices"
	"testing"

	"windlass/api"
	"windlass/code"
	"windlass/verify"
)

// The chapter's words said over: not one type a register is carried along the ways, but all that can be, and where they are unlike the register has none.

// modelRegs: how many registers the model can have.
const modelRegs = 8

// row: the types of registers at one time; those beyond a function's have none.
type row [modelRegs]api.Type

// place: to come to an instruction with something.
type place[T comparable] struct {
	at   int
	with T
}

// ways: all that one can come with to each instruction; of an instruction that isn't reached nothing. goes tells with what one goes on; of nothing one doesn't.
func ways[T comparable](ops []api.Op, first T, goes func(at int, with T) []T) []map[T]bool {
	all := make([]map[T]bool, len(ops))
	for i := range all {
		all[i] = map[T]bool{}
	}
	open := []place[T]{{0, first}}
	all[0][first] = true
	for len(open) > 0 {
		now := open[0]
		open = open[1:]
		for _, then := range goes(now.at, now.with) {
			for _, to := range nextOf(ops, now.at) {
				if !all[to][then] {
					all[to][then] = true
					open = append(open, place[T]{to, then})
				}
			}
		}
	}
	return all
}

func nextOf(ops []api.Op, at int) []int {
	switch o := ops[at]; {
	case o.Code == api.IRet:
		return nil
	case o.Code == api.IJump:
		return []int{o.K}
	case at+1 == len(ops) && o.Code == api.IUnless:
		return []int{o.K}
	case at+1 == len(ops):
		return nil
	case o.Code == api.IUnless:
		return []int{at + 1, o.K}
	}
	return []int{at + 1}
}

// modelReached: of each instruction.
func modelReached(ops []api.Op) []bool {
	var list []bool
	for _, met := range ways(ops, 0, func(int, int) []int { return []int{0} }) {
		list = append(list, len(met) > 0)
	}
	return list
}

// modelHeights: whether P11.2 takes it.
func modelHeights(ops []api.Op) bool {
	all := ways(ops, 0, func(at, height int) []int {
		switch {
		case height < 0 || height > 12:
			return nil
		case ops[at].Code == api.IEnter:
			return []int{height + 1}
		case ops[at].Code == api.ILeave:
			return []int{height - 1}
		}
		return []int{height}
	})
	for at, met := range all {
		for height := range met {
			if len(met) > 1 || height < 0 || height > 12 || ops[at].Code == api.IRet && height != 0 {
				return false
			}
		}
	}
	return true
}

// modelGives: P11.3's types of D, if it isn't INext's.
func modelGives(p api.Program, o api.Op, r row) api.Type {
	switch o.Code {
	case api.IInt, api.IAdd, api.ISub, api.IMul, api.IWAdd, api.IWSub, api.IWMul, api.IDiv, api.IMod, api.INeg, api.ILen:
		return intType
	case api.IText, api.ICat, api.IStr, api.IAsk:
		return textType
	case api.IBool, api.IEq, api.INe, api.ILt, api.ILe, api.IGt, api.IGe, api.INot, api.IHas:
		return boolType
	case api.IMove:
		return r[o.A]
	case api.IMake:
		return api.Type{Kind: api.Record, Rec: o.K}
	case api.IField:
		if t := r[o.A]; t.Kind == api.Record && o.K < len(p.Records[t.Rec].Types) {
			return p.Records[t.Rec].Types[o.K]
		}
		return noType
	case api.IGet:
		return p.Maps[o.K].Value
	case api.ICall:
		return p.Funcs[o.K].Result
	}
	panic("no D")
}

// modelBehind: the types behind an instruction, of INext whether there is a next key or not.
func modelBehind(p api.Program, o api.Op, r row) []row {
	d, gives := code.Gives(p, o)
	if !gives {
		return []row{r}
	}
	if o.Code != api.INext {
		r[d] = modelGives(p, o, r)
		return []row{r}
	}
	r[d] = boolType
	found := r
	found[o.A] = p.Maps[o.K].Key
	found[o.B] = boolType
	return []row{r, found}
}

// meet: the types that all of them have.
func meet(met map[row]bool) row {
	var common row
	first := true
	for r := range met {
		for i := range r {
			if first {
				common[i] = r[i]
			} else if common[i] != r[i] {
				common[i] = noType
			}
		}
		first = false
	}
	return common
}

// isRow: whether the registers from at on have these types.
func isRow(r row, at int, types []api.Type) bool {
	for i, t := range types {
		if r[at+i] != t {
			return false
		}
	}
	return true
}

// modelSuits: P11.3's types that are needed.
func modelSuits(p api.Program, sig api.Sig, o api.Op, r row) bool {
	is := func(register int, types ...api.Type) bool { return slices.Contains(types, r[register]) }
	switch o.Code {
	case api.IAdd, api.ISub, api.IMul, api.IWAdd, api.IWSub, api.IWMul, api.IDiv, api.IMod:
		return is(o.A, intType) && is(o.B, intType)
	case api.INeg, api.IStr:
		return is(o.A, intType)
	case api.ICat:
		return is(o.A, textType) && is(o.B, textType)
	case api.ILen, api.IAsk, api.IEmit:
		return is(o.A, textType)
	case api.IEq, api.INe:
		return r[o.A] == r[o.B] && is(o.A, intType, textType, boolType)
	case api.ILt, api.ILe, api.IGt, api.IGe:
		return is(o.A, intType) && is(o.B, intType) || is(o.A, textType) && is(o.B, textType)
	case api.INot, api.IUnless:
		return is(o.A, boolType)
	case api.IMove:
		return !is(o.A, noType)
	case api.IMake:
		return isRow(r, o.A, p.Records[o.K].Types)
	case api.IField:
		return is(o.A, pair) && o.K < 2 || is(o.A, flag) && o.K < 1
	case api.IGet, api.IHas, api.IDel:
		return is(o.A, p.Maps[o.K].Key)
	case api.IPut:
		return is(o.A, p.Maps[o.K].Key) && is(o.B, p.Maps[o.K].Value)
	case api.INext:
		return is(o.A, p.Maps[o.K].Key) && is(o.B, boolType)
	case api.ICall:
		return isRow(r, o.A, p.Funcs[o.K].Params) && (o.D == -1 || p.Funcs[o.K].Result != noType)
	case api.IAfter:
		return is(o.A, intType) && isRow(r, o.B, p.Events[o.K].Params)
	case api.IRet:
		if sig.Result == noType {
			return o.A == -1
		}
		return o.A != -1 && is(o.A, sig.Result)
	}
	return true
}

// modelTypes: of each instruction of a function of at most modelRegs registers; false, if P11.3 refuses it.
func modelTypes(c api.Code, fn int) ([][]api.Type, bool) {
	f, sig := *body(&c, fn), sigOf(c, fn)
	var first row
	copy(first[:], sig.Params)
	all := ways(f.Ops, first, func(at int, r row) []row { return modelBehind(c.Program, f.Ops[at], r) })
	list := make([][]api.Type, len(f.Ops))
	for at, met := range all {
		if len(met) == 0 {
			continue
		}
		r := meet(met)
		if !modelSuits(c.Program, sig, f.Ops[at], r) {
			return nil, false
		}
		list[at] = slices.Clone(r[:f.Regs])
	}
	return list, true
}

// modelFault: P11.1's first error of a function.
func modelFault(c api.Code, fn int) api.Errno {
	ops := body(&c, fn).Ops
	if ops[0].Code != api.ICharge {
		return api.ErrVerifyShape
	}
	for at, o := range ops {
		isBack := (o.Code == api.IJump || o.Code == api.IUnless) && o.K <= at
		if isBack && ops[o.K].Code != api.ICharge {
			return api.ErrVerifyJump
		}
	}
	last := ops[len(ops)-1].Code
	if modelReached(ops)[len(ops)-1] && last != api.IJump && last != api.IRet {
		return api.ErrVerifyEnd
	}
	if !modelHeights(ops) {
		return api.ErrVerifyHeight
	}
	if _, ok := modelTypes(c, fn); !ok {
		return api.ErrVerifyType
	}
	return api.OK
}

func modelCheck(c api.Code) (int, api.Errno) {
	if !code.Is(c) {
		return 0, api.ErrVerifyShape
	}
	for fn := range len(c.Funcs) + len(c.Events) {
		if err := modelFault(c, fn); err != api.OK {
			return fn, err
		}
	}
	return 0, api.OK
}

// modelBound: of a code that is taken.
func modelBound(c api.Code) int {
	most := 0
	for fn := range len(c.Funcs) + len(c.Events) {
		most = max(most, len(body(&c, fn).Ops))
	}
	return (12 + 2) * (1 + most)
}

// want holds all three calls against the model; it tells Check's error.
func want(t *testing.T, what string, c api.Code) api.Errno {
	t.Helper()
	wantFn, wantErr := modelCheck(c)
	fn, err := verify.Check(c)
	if fn != wantFn || err != wantErr {
		t.Errorf("P11.1: %s: %d in %d, want %d in %d; %v", what, err, fn, wantErr, wantFn, c)
		return err
	}
	wantBound := 0
	if wantErr == api.OK {
		wantBound = modelBound(c)
	}
	if bound, err := verify.Bound(c); bound != wantBound || err != wantErr {
		t.Errorf("P11.4: %s: Bound %d, %d; want %d, %d", what, bound, err, wantBound, wantErr)
	}
	wantTypes(t, what, c, wantErr)
	return err
}

// wantTypes: of all functions, and of numbers beside them.
func wantTypes(t *testing.T, what string, c api.Code, wantErr api.Errno) {
	t.Helper()
	count := len(c.Funcs) + len(c.Events)
	for fn := -1; fn <= count; fn++ {
		types, err := verify.Types(c, fn)
		var list [][]api.Type
		expected := wantErr
		if wantErr == api.OK && (fn < 0 || fn == count) {
			expected = api.ErrVerifyShape
		}
		if expected == api.OK {
			list, _ = modelTypes(c, fn)
		}
		if err != expected || !sameTypes(types, list) {
			t.Errorf("P11.4: %s: Types of %d: %v, %d; want %v, %d; %v", what, fn, types, err, list, expected, c)
		}
	}
}

func sameTypes(a, b [][]api.Type) bool { return slices.EqualFunc(a, b, slices.Equal[[]api.Type]) }
