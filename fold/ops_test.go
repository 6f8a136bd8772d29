package fold_test

import (
	"fmt"
	"math"
	"slices"
	"strings"
	"testing"

	"windlass/api"
)

// edges: where numbers of 64 bits begin and end to be too great, by sums and by products.
var edges = []int64{math.MinInt64, math.MinInt64 + 1, -1 << 62, -1 << 32, -1 << 31, -3037000500, -3037000499, -7, -2, -1, 0, 1, 2, 7, 3037000499, 3037000500, 1 << 31, 1 << 32, 1 << 62, math.MaxInt64 - 1, math.MaxInt64}

func edgeValues() []api.Value {
	var list []api.Value
	for _, n := range edges {
		list = append(list, numbered(n))
	}
	return list
}

func textValues() []api.Value {
	var list []api.Value
	for _, s := range []string{"", "a", "b", "ab", "\x00", "\xff", "\xc3\xbc", strings.Repeat("c", 31), strings.Repeat("c", 32), strings.Repeat("d", 33), strings.Repeat("c", 63), strings.Repeat("c", 64)} {
		list = append(list, texted(s))
	}
	return list
}

func truthValues() []api.Value { return []api.Value{truth(false), truth(true)} }

// operands: of each instruction that is reckoned, the values that it may be tried on, and whether it takes two of these.
func operands(code int) ([][]api.Value, bool) {
	switch code {
	case api.INeg, api.IStr:
		return [][]api.Value{edgeValues()}, false
	case api.ILen:
		return [][]api.Value{textValues()}, false
	case api.INot:
		return [][]api.Value{truthValues()}, false
	case api.IMove:
		return [][]api.Value{edgeValues(), textValues(), truthValues()}, false
	case api.ICat:
		return [][]api.Value{textValues()}, true
	case api.IEq, api.INe:
		return [][]api.Value{edgeValues(), textValues(), truthValues()}, true
	case api.ILt, api.ILe, api.IGt, api.IGe:
		return [][]api.Value{edgeValues(), textValues()}, true
	}
	return [][]api.Value{edgeValues()}, true
}

var reckonedCodes = []int{
	api.IMove, api.IAdd, api.ISub, api.IMul, api.IWAdd, api.IWSub, api.IWMul, api.IDiv, api.IMod, api.ICat,
	api.IEq, api.INe, api.ILt, api.ILe, api.IGt, api.IGe, api.INeg, api.INot, api.ILen, api.IStr,
}

// P14.2: each operation on all values at the edges: what it gives stands in its place, but if it traps it stays; either way it does the same.
func TestOperations(t *testing.T) {
	for _, code := range reckonedCodes {
		sorts, isOfTwo := operands(code)
		folded, trapped := 0, 0
		for _, values := range sorts {
			for _, a := range values {
				seconds := values
				if !isOfTwo {
					seconds = []api.Value{a}
				}
				for _, b := range seconds {
					if wantReckoned(t, code, a, b, isOfTwo) {
						folded++
					} else {
						trapped++
					}
				}
			}
		}
		mayTrap := slices.Contains([]int{api.IAdd, api.ISub, api.IMul, api.IDiv, api.IMod, api.ICat, api.INeg}, code)
		if folded == 0 || mayTrap != (trapped > 0) {
			t.Errorf("%d: %d folded, %d trapped", code, folded, trapped)
		}
	}
}

// wantReckoned: whether it doesn't trap.
func wantReckoned(t *testing.T, code int, a, b api.Value, isOfTwo bool) bool {
	t.Helper()
	var s sheet
	o := op(code, 5, 3)
	ops := []api.Op{s.give(3, a)}
	if isOfTwo {
		o.B = 4
		ops = append(ops, s.give(4, b))
	}
	want, trap := meant(code, a, b)
	at := 1 + len(ops)
	ops = append(ops, o)
	if trap == api.TrapNone {
		ops = append(ops, s.tell(5, api.Type{Kind: want.Kind})...)
	}
	u := s.unitOf(ops...)
	v := passedOnce(t, u)
	got := spelled(v, v.Events[onE].Blocks[0].Ops)
	instead := o
	if trap == api.TrapNone {
		instead = s.give(5, want)
	}
	ops[at-1] = instead
	wanted := s.spelled(charged(ops...))
	if !slices.Equal(got, wanted) {
		t.Errorf("P14.2: %q, want %q", got, wanted)
	}
	outcome := wantAlike(t, u, v, run{blank(), eventOf(0, "", false), nil, 0})
	if outcome.Trap != trap {
		t.Errorf("P9.1: %d of %s, %s: trap %d, want %d", code, shown(a), shown(b), outcome.Trap, trap)
	}
	if trap == api.TrapNone && shown(outcome.Plans[0].Event.Args[0]) != shown(want) {
		t.Errorf("P9.1: %d of %s, %s: %s, want %s", code, shown(a), shown(b), shown(outcome.Plans), shown(want))
	}
	return trap == api.TrapNone
}

// row: what a handler does, and what that becomes; both behind a charge.
type row struct {
	what      string
	ops, want []api.Op
}

// wantRows: s has the constants of all rows.
func (s *sheet) wantRows(t *testing.T, rows []row) {
	t.Helper()
	for _, r := range rows {
		u := s.unitOf(r.ops...)
		wantFolded(t, r.what, u, s.spelled(charged(r.want...)))
	}
}

// P14.2: registers that an operation uses and gives may be one; what is reckoned is known itself.
func TestChains(t *testing.T) {
	var s sheet
	s.wantRows(t, []row{
		{"a sum", []api.Op{s.num(3, 2), s.num(4, 3), op(api.IAdd, 5, 3, 4)}, []api.Op{s.num(3, 2), s.num(4, 3), s.num(5, 5)}},
		{"of itself and itself", []api.Op{s.num(3, 2), op(api.IMul, 3, 3, 3), op(api.IMul, 3, 3, 3)}, []api.Op{s.num(3, 2), s.num(3, 4), s.num(3, 16)}},
		{"A is D", []api.Op{s.num(3, 2), s.num(4, 7), op(api.ISub, 3, 3, 4)}, []api.Op{s.num(3, 2), s.num(4, 7), s.num(3, -5)}},
		{"B is D", []api.Op{s.num(3, 2), s.num(4, 7), op(api.ISub, 4, 3, 4)}, []api.Op{s.num(3, 2), s.num(4, 7), s.num(4, -5)}},
		{
			"from sort to sort", []api.Op{s.num(3, -12), op(api.IStr, 4, 3), op(api.ICat, 5, 4, 4), op(api.ILen, 6, 5), s.num(7, 6), op(api.IEq, 8, 6, 7), op(api.INot, 9, 8), move(10, 9)},
			[]api.Op{s.num(3, -12), s.text(4, "-12"), s.text(5, "-12-12"), s.num(6, 6), s.num(7, 6), be(8, 1), be(9, 0), be(10, 0)},
		},
		{"moves", []api.Op{s.text(3, "a"), move(4, 3), move(5, 4), move(5, 5), op(api.ILen, 6, 5)}, []api.Op{s.text(3, "a"), s.text(4, "a"), s.text(5, "a"), s.text(5, "a"), s.num(6, 1)}},
		{
			"what comes between", []api.Op{s.num(3, 2), op(api.IEmit, 0, 1), op(api.IEnter), op(api.ICharge), op(api.ILeave), op(api.IPut, 0, 3, 3, numbers), op(api.IDel, 0, 3, 0, numbers), op(api.ICall, -1, 0, 0, fnNothing), op(api.INeg, 4, 3)},
			[]api.Op{s.num(3, 2), op(api.IEmit, 0, 1), op(api.IEnter), op(api.ICharge), op(api.ILeave), op(api.IPut, 0, 3, 3, numbers), op(api.IDel, 0, 3, 0, numbers), op(api.ICall, -1, 0, 0, fnNothing), s.num(4, -2)},
		},
		{"register 0", []api.Op{s.num(0, 2), op(api.INeg, 0, 0)}, []api.Op{s.num(0, 2), s.num(0, -2)}},
	})
}

// P14.1, P14.2: what traps stays where it is, and behind it nothing is known of what it would give; what is ahead of it and behind it is reckoned.
func TestTrapsStay(t *testing.T) {
	var s sheet
	long := strings.Repeat("x", 33)
	s.wantRows(t, []row{
		{"TrapOver", []api.Op{s.num(3, math.MaxInt64), s.num(4, 1), op(api.IAdd, 3, 3, 4), op(api.INeg, 5, 3), op(api.INeg, 6, 4)}, []api.Op{s.num(3, math.MaxInt64), s.num(4, 1), op(api.IAdd, 3, 3, 4), op(api.INeg, 5, 3), s.num(6, -1)}},
		{"TrapOver of a quotient", []api.Op{s.num(3, math.MinInt64), s.num(4, -1), op(api.IMod, 5, 3, 4), op(api.IDiv, 6, 3, 4)}, []api.Op{s.num(3, math.MinInt64), s.num(4, -1), s.num(5, 0), op(api.IDiv, 6, 3, 4)}},
		{"TrapOver of a negation", []api.Op{s.num(3, math.MinInt64), op(api.INeg, 3, 3), op(api.INeg, 3, 3)}, []api.Op{s.num(3, math.MinInt64), op(api.INeg, 3, 3), op(api.INeg, 3, 3)}},
		{"TrapZero", []api.Op{s.num(3, 1), op(api.ISub, 4, 3, 3), op(api.IMod, 4, 3, 4), op(api.IStr, 5, 4)}, []api.Op{s.num(3, 1), s.num(4, 0), op(api.IMod, 4, 3, 4), op(api.IStr, 5, 4)}},
		{"TrapLong", []api.Op{s.text(3, long), op(api.ICat, 3, 3, 3), op(api.ILen, 4, 3)}, []api.Op{s.text(3, long), op(api.ICat, 3, 3, 3), op(api.ILen, 4, 3)}},
	})
}

// P14.2: an operation of which one operand alone is known stays, whichever it is.
func TestHalfKnown(t *testing.T) {
	for _, code := range reckonedCodes {
		sorts, isOfTwo := operands(code)
		if !isOfTwo {
			continue
		}
		for _, values := range sorts {
			var s sheet
			v := values[len(values)/2]
			param := map[int]int{api.Int: 0, api.Text: 1, api.Bool: 2}[v.Kind]
			ops := []api.Op{s.give(3, v), op(code, 4, 3, param), op(code, 5, param, 3), op(code, 6, param, param)}
			u := s.unitOf(ops...)
			wantFolded(t, fmt.Sprint("half of ", code), u, s.spelled(charged(ops...)))
		}
	}
}
