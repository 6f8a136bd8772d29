package vm_test

import (
	"math"
	"math/big"
	"slices"
	"strconv"
	"strings"
	"testing"

	"windlass/api"
)

// exact: what an instruction of two numbers gives, reckoned exactly, and its trap.
func exact(code int, a, b int64) (int64, int) {
	x, y, n := big.NewInt(a), big.NewInt(b), new(big.Int)
	isDivision := code == api.IDiv || code == api.IMod
	if isDivision && b == 0 {
		return 0, api.TrapZero
	}
	switch code {
	case api.IAdd, api.IWAdd:
		n.Add(x, y)
	case api.ISub, api.IWSub:
		n.Sub(x, y)
	case api.IMul, api.IWMul:
		n.Mul(x, y)
	case api.IDiv:
		n.Quo(x, y)
	case api.IMod:
		n.Rem(x, y)
	}
	if code == api.IWAdd || code == api.IWSub || code == api.IWMul {
		lowest := new(big.Int).And(n, new(big.Int).SetUint64(math.MaxUint64))
		return int64(lowest.Uint64()), api.TrapNone
	}
	if !n.IsInt64() {
		return 0, api.TrapOver
	}
	return n.Int64(), api.TrapNone
}

var arithmetic = []int{api.IAdd, api.ISub, api.IMul, api.IWAdd, api.IWSub, api.IWMul, api.IDiv, api.IMod}

// P9.1: sums, differences, products, quotients, rests.
func TestArithmetic(t *testing.T) {
	for _, code := range arithmetic {
		for _, a := range edges {
			for _, b := range edges {
				what := strconv.Itoa(code) + " of " + strconv.FormatInt(a, 10) + " and " + strconv.FormatInt(b, 10)
				n, trap := exact(code, a, b)
				// D is a register of its own, or one that is used.
				for d := range 3 {
					ops := append([]api.Op{op(code, d, 0, 1)}, told(d, intType)...)
					o := does(t, full(), []api.Value{numbered(a), numbered(b)}, ops...)
					if trap != api.TrapNone {
						wantTrap(t, what, o, trap, full())
					} else {
						wantValue(t, what, o, numbered(n))
					}
				}
			}
		}
	}
}

// P9.1: both used registers may be one.
func TestArithmeticOfOne(t *testing.T) {
	for _, code := range arithmetic {
		for _, a := range edges {
			n, trap := exact(code, a, a)
			o := does(t, blank(), []api.Value{numbered(a)}, append([]api.Op{op(code, 0, 0, 0)}, told(0, intType)...)...)
			if trap != api.TrapNone {
				wantTrap(t, "of one", o, trap, blank())
			} else {
				wantValue(t, "of one", o, numbered(n))
			}
		}
	}
}

// P9.1: instructions of one number: 0 - A, its digits.
func TestOfOneNumber(t *testing.T) {
	for _, a := range edges {
		args := []api.Value{numbered(a)}
		o := does(t, full(), args, append([]api.Op{op(api.INeg, 1, 0)}, told(1, intType)...)...)
		if a == math.MinInt64 {
			wantTrap(t, "INeg", o, api.TrapOver, full())
		} else {
			wantValue(t, "INeg", o, numbered(-a))
		}
		o = does(t, blank(), args, append([]api.Op{op(api.IStr, 1, 0)}, told(1, textType)...)...)
		wantValue(t, "IStr", o, texted(big.NewInt(a).String()))
	}
}

// samples: texts whose order is by bytes, not by letters or by length.
var samples = []string{"", "a", "b", "aa", "ab", "A", "\x00", "\x00\x00", "a\x00", "\xff", "\xffa", "\x7f", "\x80", "é", "9", "10", `"`, strings.Repeat("x", 64), strings.Repeat("x", 63), strings.Repeat("\xff", 64)}

// P9.1: whether value.Compare is so, of numbers, texts, truths.
func TestComparisons(t *testing.T) {
	codes := []int{api.IEq, api.INe, api.ILt, api.ILe, api.IGt, api.IGe}
	look := func(a, b api.Value, order int, codes []int) {
		for _, code := range codes {
			want := []bool{order == 0, order != 0, order < 0, order <= 0, order > 0, order >= 0}[code-api.IEq]
			o := does(t, blank(), []api.Value{a, b}, append([]api.Op{op(code, 2, 0, 1)}, told(2, boolType)...)...)
			wantValue(t, strconv.Itoa(code)+" of "+shown(a)+" and "+shown(b), o, truth(want))
		}
	}
	for _, a := range edges {
		for _, b := range edges {
			look(numbered(a), numbered(b), big.NewInt(a).Cmp(big.NewInt(b)), codes)
		}
	}
	for _, a := range samples {
		for _, b := range samples {
			look(texted(a), texted(b), slices.Compare([]byte(a), []byte(b)), codes)
		}
	}
	for i := range 4 {
		look(truth(i&1 != 0), truth(i&2 != 0), i&1-i>>1, codes[:2])
	}
}

// P9.1: both texts, at most 64 bytes of them; how many bytes.
func TestTexts(t *testing.T) {
	for a := range 65 {
		for b := range 65 {
			if sum := a + b; sum > 4 && (sum < 62 || sum > 67) && sum < 127 && a%13 > 0 {
				continue
			}
			left, right := strings.Repeat("l", a), strings.Repeat("r", b)
			o := does(t, full(), []api.Value{texted(left), texted(right)}, append([]api.Op{op(api.ICat, 2, 0, 1)}, told(2, textType)...)...)
			if a+b > 64 {
				wantTrap(t, "ICat", o, api.TrapLong, full())
			} else {
				wantValue(t, "ICat", o, texted(left+right))
			}
		}
	}
	for _, s := range samples {
		o := does(t, blank(), []api.Value{texted(s)}, append([]api.Op{op(api.ILen, 1, 0)}, told(1, intType)...)...)
		wantValue(t, "ILen", o, numbered(int64(len(s))))
	}
	o := does(t, blank(), []api.Value{texted("ab")}, append([]api.Op{op(api.ICat, 0, 0, 0), op(api.ICat, 0, 0, 0)}, told(0, textType)...)...)
	wantValue(t, "ICat of one", o, texted("abababab"))
}

// P9.1: constants, moves, truths.
func TestConstants(t *testing.T) {
	for k, n := range coded(nil).Ints {
		wantValue(t, "IInt", does(t, blank(), nil, append([]api.Op{set(3, k)}, told(3, intType)...)...), numbered(n))
	}
	for k, s := range coded(nil).Texts {
		wantValue(t, "IText", does(t, blank(), nil, append([]api.Op{say(3, k)}, told(3, textType)...)...), texted(s))
	}
	for k := range 2 {
		wantValue(t, "IBool", does(t, blank(), nil, append([]api.Op{be(3, k)}, told(3, boolType)...)...), truth(k == 1))
		wantValue(t, "INot", does(t, blank(), nil, append([]api.Op{be(3, k), op(api.INot, 3, 3)}, told(3, boolType)...)...), truth(k == 0))
		wantValue(t, "INot", does(t, blank(), nil, append([]api.Op{be(3, k), op(api.INot, 4, 3)}, told(3, boolType)...)...), truth(k == 1))
	}
	for _, v := range []api.Value{numbered(-5), texted("t"), truth(true), pairOf(1, "p"), recorded(1, truth(false))} {
		o := does(t, blank(), []api.Value{v}, append([]api.Op{op(api.IMove, 7, 0), op(api.IMove, 8, 7)}, told(8, typeOf(v))...)...)
		wantValue(t, "IMove", o, v)
	}
}

// wideOf: the record of twelve fields.
func wideOf() (api.Value, []api.Value) {
	var fields []api.Value
	for i := range 4 {
		fields = append(fields, numbered(int64(i)), texted(strconv.Itoa(i)), truth(i%2 == 0))
	}
	return recorded(2, fields...), fields
}

// P9.1: records are made of a row of registers, and stay as they are when the registers change.
func TestRecords(t *testing.T) {
	record, fields := wideOf()
	made := op(api.IMake, 12, 0, 0, 2)
	o := does(t, blank(), fields, append([]api.Op{made, op(api.INeg, 3, 3), say(1, port), be(2, 0), set(0, many)}, told(12, wide)...)...)
	wantValue(t, "IMake", o, record)
	for k, field := range fields {
		o := does(t, blank(), []api.Value{record}, append([]api.Op{op(api.IField, 1, 0, 0, k)}, told(1, typeOf(field))...)...)
		wantValue(t, "IField", o, field)
		o = does(t, blank(), []api.Value{record}, append([]api.Op{op(api.IField, 0, 0, 0, k)}, told(0, typeOf(field))...)...)
		wantValue(t, "IField into its own register", o, field)
	}
	// D lies in the row.
	for d := range 2 {
		args := []api.Value{numbered(4), texted("four")}
		o := does(t, blank(), args, append([]api.Op{op(api.IMake, d, 0, 0, 0)}, told(d, pair)...)...)
		wantValue(t, "IMake into its row", o, pairOf(4, "four"))
	}
	// Behind other registers, up to the last one.
	ops := []api.Op{op(api.IMove, regs-2, 0), op(api.IMove, regs-1, 1), op(api.IMake, 5, regs-2, 0, 0)}
	o = does(t, blank(), []api.Value{numbered(6), texted("six")}, append(ops, told(5, pair)...)...)
	wantValue(t, "IMake of the last registers", o, pairOf(6, "six"))
}

// P9.1: a jump goes to its instruction; an unless, if its register is false.
func TestJumps(t *testing.T) {
	for k := range 2 {
		// 1: truth; 2: unless -> 5; 3: number 1; 4: jump -> 6; 5: number 24; 6, 7: told.
		ops := append([]api.Op{be(0, k), unless(0, 5), set(1, one), jump(6), set(1, many)}, told(1, intType)...)
		o := does(t, blank(), nil, ops...)
		wantValue(t, "IUnless", o, numbered([]int64{24, 1}[k]))
		if done := traced(t, coded(nil, ops...), blank(), eventOf(), nil, 0); done != [2]int{[]int{7, 8}[k], []int{6, 7}[k]} {
			t.Errorf("P12.4: %v", done)
		}
	}
	// Back to a charge: twenty-four times round.
	loop := []api.Op{set(0, many), set(1, one), set(2, zero), charge(), op(api.ISub, 0, 0, 1), op(api.IEq, 3, 0, 2), unless(3, 4)}
	o := does(t, blank(), nil, append(loop, told(0, intType)...)...)
	wantValue(t, "a loop", o, numbered(0))
	if o.Fuel != 25 {
		t.Errorf("P12.3: %d charges", o.Fuel)
	}
}
