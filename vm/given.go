package vm

import (
	"math"
	"slices"
	"strconv"

	"windlass/api"
	"windlass/value"
)

func number(n int64) api.Value { return api.Value{Kind: api.Int, Int: n} }
func text(s string) api.Value  { return api.Value{Kind: api.Text, Text: s} }
func isTrue(v api.Value) bool  { return v.Int == 1 }

func truth(b bool) api.Value {
	if b {
		return api.Value{Kind: api.Bool, Int: 1}
	}
	return api.Value{Kind: api.Bool}
}

// given: what an instruction gives that does nothing else, and its trap.
func (m *machine) given(o api.Op, registers []api.Value) (api.Value, int) {
	switch o.Code {
	case api.ICat:
		return fitting(registers[o.A].Text + registers[o.B].Text)
	case api.INeg:
		return reckoned(api.ISub, 0, registers[o.A].Int)
	case api.IAdd, api.ISub, api.IMul, api.IWAdd, api.IWSub, api.IWMul, api.IDiv, api.IMod:
		return reckoned(o.Code, registers[o.A].Int, registers[o.B].Int)
	}
	return m.found(o, registers), api.TrapNone
}

// found: likewise, of one that never traps.
func (m *machine) found(o api.Op, registers []api.Value) api.Value {
	switch o.Code {
	case api.IInt:
		return number(m.code.Ints[o.K])
	case api.IText:
		return text(m.code.Texts[o.K])
	case api.IBool:
		return truth(o.K == 1)
	case api.IMove:
		return registers[o.A]
	case api.INot:
		return truth(!isTrue(registers[o.A]))
	case api.ILen:
		return number(int64(len(registers[o.A].Text)))
	case api.IStr:
		return text(strconv.FormatInt(registers[o.A].Int, 10))
	case api.IMake:
		fields := row(registers, o.A, len(m.code.Program.Records[o.K].Fields))
		return api.Value{Kind: api.Record, Rec: o.K, Fields: slices.Clone(fields)}
	case api.IField:
		return registers[o.A].Fields[o.K]
	case api.IGet:
		return m.get(o.K, registers[o.A])
	case api.IHas:
		return truth(m.has(o.K, registers[o.A]))
	}
	return truth(holds(o.Code, value.Compare(registers[o.A], registers[o.B])))
}

// holds: whether a comparison is so of two values in this order.
func holds(code, order int) bool {
	switch code {
	case api.IEq:
		return order == 0
	case api.INe:
		return order != 0
	case api.ILt:
		return order < 0
	case api.ILe:
		return order <= 0
	case api.IGt:
		return order > 0
	}
	return order >= 0
}

// fitting: a text that a register can hold.
func fitting(s string) (api.Value, int) {
	if len(s) > api.MaxText {
		return api.Value{}, api.TrapLong
	}
	return text(s), api.TrapNone
}

// reckoned: of two numbers.
func reckoned(code int, a, b int64) (api.Value, int) {
	if (code == api.IDiv || code == api.IMod) && b == 0 {
		return api.Value{}, api.TrapZero
	}
	var n int64
	isOver := false
	switch code {
	case api.IAdd, api.IWAdd:
		n = a + b
		isOver = code == api.IAdd && (n < a) != (b < 0)
	case api.ISub, api.IWSub:
		n = a - b
		isOver = code == api.ISub && (n > a) != (b < 0)
	case api.IMul, api.IWMul:
		n = a * b
		isOver = code == api.IMul && !isProduct(n, a, b)
	case api.IDiv:
		n = a / b
		isOver = isBeyond(a, b)
	case api.IMod:
		n = a % b
	}
	if isOver {
		return api.Value{}, api.TrapOver
	}
	return number(n), api.TrapNone
}

// isProduct: whether n, the lowest bits of a times b, is all of it.
func isProduct(n, a, b int64) bool {
	return b == 0 || n/b == a && !isBeyond(a, b)
}

// isBeyond: whether a / b (and so a times b) is 2^63, which comes out as a again.
func isBeyond(a, b int64) bool { return a == math.MinInt64 && b == -1 }
