package fold_test

import (
	"fmt"
	"math/big"

	"windlass/api"
	"windlass/code"
	"windlass/value"
)

// The chapters' words said over: numbers are reckoned exactly, and looked at behind that.

// isReckoned: whether P14.2 names it, but for IMove.
func isReckoned(o api.Op) bool {
	switch o.Code {
	case api.IAdd, api.ISub, api.IMul, api.IWAdd, api.IWSub, api.IWMul, api.IDiv, api.IMod,
		api.ICat, api.IEq, api.INe, api.ILt, api.ILe, api.IGt, api.IGe, api.INeg, api.INot, api.ILen, api.IStr:
		return true
	}
	return false
}

// meant: what an instruction gives of values, or its trap.
func meant(code int, a, b api.Value) (api.Value, int) {
	switch code {
	case api.IMove:
		return a, api.TrapNone
	case api.ICat:
		if len(a.Text)+len(b.Text) > 64 {
			return api.Value{}, api.TrapLong
		}
		return texted(fmt.Sprint(a.Text, b.Text)), api.TrapNone
	case api.INot:
		return truth(a.Int != 1), api.TrapNone
	case api.ILen:
		return numbered(int64(len([]byte(a.Text)))), api.TrapNone
	case api.IStr:
		return texted(big.NewInt(a.Int).String()), api.TrapNone
	case api.IEq, api.INe, api.ILt, api.ILe, api.IGt, api.IGe:
		is := map[int][]int{api.IEq: {0}, api.INe: {-1, 1}, api.ILt: {-1}, api.ILe: {-1, 0}, api.IGt: {1}, api.IGe: {0, 1}}[code]
		for _, order := range is {
			if value.Compare(a, b) == order {
				return truth(true), api.TrapNone
			}
		}
		return truth(false), api.TrapNone
	}
	return exactly(code, big.NewInt(a.Int), big.NewInt(b.Int))
}

// exactly: of numbers.
func exactly(code int, a, b *big.Int) (api.Value, int) {
	n := new(big.Int)
	switch code {
	case api.IAdd, api.IWAdd:
		n.Add(a, b)
	case api.ISub, api.IWSub:
		n.Sub(a, b)
	case api.IMul, api.IWMul:
		n.Mul(a, b)
	case api.INeg:
		n.Neg(a)
	case api.IDiv, api.IMod:
		if b.Sign() == 0 {
			return api.Value{}, api.TrapZero
		}
		if code == api.IDiv {
			n.Quo(a, b)
		} else {
			n.Rem(a, b)
		}
	}
	if code == api.IWAdd || code == api.IWSub || code == api.IWMul {
		n.And(n, new(big.Int).SetUint64(1<<64-1))
		if n.Bit(63) == 1 {
			n.Sub(n, new(big.Int).Lsh(big.NewInt(1), 64))
		}
	}
	if !n.IsInt64() {
		return api.Value{}, api.TrapOver
	}
	return numbered(n.Int64()), api.TrapNone
}

// leftOver: an instruction of u that P14.2 says isn't there, or nothing.
func leftOver(u api.Unit) string {
	for fn, g := range graphs(u) {
		for i, b := range g.Blocks {
			for at, o := range b.Ops {
				if o.Code != api.IMove && !isReckoned(o) {
					continue
				}
				values, known := usedConstants(u, b.Ops[:at], o)
				if !known {
					continue
				}
				if _, trap := meant(o.Code, values[0], values[len(values)-1]); trap == api.TrapNone {
					return fmt.Sprintf("instruction %d of block %d of function %d (%s)", at, i, fn, code.Line(o))
				}
			}
		}
	}
	return ""
}

// usedConstants: what the registers have that o uses; false, if one wasn't given by a constant among these instructions ahead of it, or was given anew since.
func usedConstants(u api.Unit, ahead []api.Op, o api.Op) ([]api.Value, bool) {
	used, _ := code.Uses(u.Program, o)
	var values []api.Value
	for _, register := range used {
		v, isConstant := lastGiven(u, ahead, register)
		if !isConstant {
			return nil, false
		}
		values = append(values, v)
	}
	return values, len(used) > 0
}

// lastGiven: the constant that a register has behind these instructions, if the last one that gives it gives one.
func lastGiven(u api.Unit, ops []api.Op, register int) (api.Value, bool) {
	for i := len(ops) - 1; i >= 0; i-- {
		o := ops[i]
		if o.Code == api.INext && (o.A == register || o.B == register) {
			return api.Value{}, false
		}
		if d, isGiven := code.Gives(u.Program, o); !isGiven || d != register {
			continue
		}
		switch o.Code {
		case api.IInt:
			return numbered(u.Ints[o.K]), true
		case api.IText:
			return texted(u.Texts[o.K]), true
		case api.IBool:
			return truth(o.K == 1), true
		}
		return api.Value{}, false
	}
	return api.Value{}, false
}
