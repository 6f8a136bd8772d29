package fold

import (
	"cmp"
	"math"
	"strconv"

	"windlass/api"
)

// constant: what a register has for sure. by: the instruction that gives it: IInt, IText, IBool; 0: nothing is known.
type constant struct {
	by     int
	number int64 // of a truth 0 or 1
	text   string
}

func number(n int64) constant { return constant{by: api.IInt, number: n} }
func text(s string) constant  { return constant{by: api.IText, text: s} }

func truth(b bool) constant {
	if b {
		return constant{by: api.IBool, number: 1}
	}
	return constant{by: api.IBool}
}

func (c constant) isKnown() bool { return c.by != 0 }

// reckoned: what an instruction of IMove to IStr gives of constants; one that isn't known, if it traps on them. Of one operand b is a, too.
// Which sorts they are isn't looked at: layer 11 did, but for blocks that aren't reached, and there nothing is ever done.
func reckoned(code int, a, b constant) constant {
	switch code {
	case api.IMove:
		return a
	case api.ICat:
		return joined(a.text, b.text)
	case api.ILen:
		return number(int64(len(a.text)))
	case api.IStr:
		return text(strconv.FormatInt(a.number, 10))
	case api.INot:
		return truth(a.number == 0)
	case api.IEq, api.INe, api.ILt, api.ILe, api.IGt, api.IGe:
		return truth(holds(code, order(a, b)))
	}
	return reckonedNumber(code, a.number, b.number)
}

func joined(a, b string) constant {
	if len(a)+len(b) > api.MaxText {
		return constant{}
	}
	return text(a + b)
}

// order: -1, 0 or 1; of numbers and truths there is no text, of texts no number.
func order(a, b constant) int {
	return cmp.Or(cmp.Compare(a.number, b.number), cmp.Compare(a.text, b.text))
}

// holds: whether a comparison is so of two constants in this order.
func holds(code, order int) bool {
	switch code {
	case api.IEq:
		return order == 0
	case api.INe:
		return order != 0
	case api.ILt:
		return order < 0
	case api.ILe:
		return order <= 0
	case api.IGt:
		return order > 0
	}
	return order >= 0
}

// reckonedNumber: what doesn't trap is what its lowest bits are: it falls through to these.
func reckonedNumber(code int, a, b int64) constant {
	switch code {
	case api.IAdd:
		if (a+b < a) != (b < 0) {
			return constant{}
		}
		fallthrough
	case api.IWAdd:
		return number(a + b)
	case api.INeg:
		a, b = 0, a
		fallthrough
	case api.ISub:
		if (a-b > a) != (b < 0) {
			return constant{}
		}
		fallthrough
	case api.IWSub:
		return number(a - b)
	case api.IMul:
		if !isProduct(a*b, a, b) {
			return constant{}
		}
		fallthrough
	case api.IWMul:
		return number(a * b)
	case api.IDiv:
		if b == 0 || isBeyond(a, b) {
			return constant{}
		}
		return number(a / b)
	}
	// IMod.
	if b == 0 {
		return constant{}
	}
	return number(a % b)
}

// isProduct: whether n, the lowest bits of a times b, is all of it.
func isProduct(n, a, b int64) bool {
	return b == 0 || n/b == a && !isBeyond(a, b)
}

// isBeyond: whether a / b (and so a times b) is 2^63, which comes out as a again.
func isBeyond(a, b int64) bool { return a == math.MinInt64 && b == -1 }
