package code_test

import (
	"fmt"
	"math"
	"math/rand"
	"slices"
	"strings"
	"testing"

	"windlass/api"
	"windlass/code"
)

// P9.1, P9.2: each instruction with the least and with the greatest numbers in all its fields.
func TestEachInstruction(t *testing.T) {
	if len(chapter) != api.IRet {
		t.Fatalf("%d instructions", len(chapter))
	}
	for n := range chapter {
		least, most := api.Op{Code: n}, api.Op{Code: n}
		for _, name := range []string{"K", "D", "A", "B"} {
			c := sample()
			*field(&least, name), _ = limits(c, c.Funcs[0], least, name)
			_, *field(&most, name) = limits(c, c.Funcs[0], most, name)
		}
		wantIs(t, fmt.Sprint(least), with(least), true)
		wantIs(t, fmt.Sprint(most), with(most), true)
	}
}

// P9.1, P9.2: the greatest numbers of the sample's, by hand: 20 registers, 7 instructions, 5 integers, 4 texts, 3 records, 2 maps, 3 functions, 3 handlers.
func TestGreatestNumbers(t *testing.T) {
	for _, o := range []api.Op{
		{Code: api.IInt, D: 19, K: 4}, {Code: api.IText, D: 19, K: 3}, {Code: api.IBool, D: 19, K: 1}, {Code: api.IMove, D: 19, A: 19},
		{Code: api.IAdd, D: 19, A: 19, B: 19}, {Code: api.ISub, D: 19, A: 19, B: 19}, {Code: api.IMul, D: 19, A: 19, B: 19},
		{Code: api.IWAdd, D: 19, A: 19, B: 19}, {Code: api.IWSub, D: 19, A: 19, B: 19}, {Code: api.IWMul, D: 19, A: 19, B: 19},
		{Code: api.IDiv, D: 19, A: 19, B: 19}, {Code: api.IMod, D: 19, A: 19, B: 19}, {Code: api.ICat, D: 19, A: 19, B: 19},
		{Code: api.IEq, D: 19, A: 19, B: 19}, {Code: api.INe, D: 19, A: 19, B: 19}, {Code: api.ILt, D: 19, A: 19, B: 19},
		{Code: api.ILe, D: 19, A: 19, B: 19}, {Code: api.IGt, D: 19, A: 19, B: 19}, {Code: api.IGe, D: 19, A: 19, B: 19},
		{Code: api.INeg, D: 19, A: 19}, {Code: api.INot, D: 19, A: 19}, {Code: api.ILen, D: 19, A: 19}, {Code: api.IStr, D: 19, A: 19},
		{Code: api.IMake, D: 19, A: 19, K: 2}, {Code: api.IField, D: 19, A: 19, K: 11}, {Code: api.IGet, D: 19, A: 19, K: 1}, {Code: api.IHas, D: 19, A: 19, K: 1},
		{Code: api.IPut, A: 19, B: 19, K: 1}, {Code: api.IDel, A: 19, K: 1}, {Code: api.INext, D: 19, A: 19, B: 19, K: 1},
		{Code: api.ICall, D: 19, A: 8, K: 2}, {Code: api.IAsk, D: 19, A: 19, K: 3}, {Code: api.IEmit, A: 19}, {Code: api.IAfter, A: 19, B: 8, K: 2},
		{Code: api.ICharge}, {Code: api.IEnter}, {Code: api.ILeave}, {Code: api.IJump, K: 6}, {Code: api.IUnless, A: 19, K: 6}, {Code: api.IRet, A: 19},
	} {
		wantIs(t, fmt.Sprint(o), with(o), true)
		for _, name := range fieldNames {
			more := o
			*field(&more, name)++
			wantIs(t, fmt.Sprint(more), with(more), false)
		}
	}
}

// P9.2: each field of each instruction at its edges, past them, and far off; fields that it hasn't are 0.
func TestEachField(t *testing.T) {
	for n := range chapter {
		for _, name := range fieldNames {
			o := api.Op{Code: n}
			c := sample()
			least, most := limits(c, c.Funcs[0], o, name)
			for _, number := range []int{least - 1, least, least + 1, most - 1, most, most + 1, -2, -1, 0, 1, 2, 12, 20, 63, 64, 255, 256, 1000, 2000, 1 << 32, 1<<32 + 1, -1 << 32, math.MaxInt, math.MinInt} {
				*field(&o, name) = number
				wantIs(t, fmt.Sprint(o), with(o), least <= number && number <= most)
			}
		}
	}
}

// P9.2: two fields, each at or past its edges.
func TestTwoFields(t *testing.T) {
	for n := range chapter {
		for _, one := range fieldNames {
			for _, other := range fieldNames {
				for pair := range 25 {
					o := api.Op{Code: n}
					*field(&o, one) = []int{-1, 0, 1, 8, 19}[pair/5]
					*field(&o, other) = []int{-1, 0, 1, 9, 20}[pair%5]
					c := with(o)
					wantIs(t, fmt.Sprint(o), c, modelOp(c, c.Funcs[0], o))
				}
			}
		}
	}
}

// P9.2: numbers that are no instruction's.
func TestCodesThatAreNone(t *testing.T) {
	for _, n := range []int{0, -1, -2, 41, 42, 99, 255, 256, 257, 1<<32 + api.ICharge, -api.ICharge, math.MaxInt, math.MinInt} {
		for _, o := range []api.Op{{Code: n}, {Code: n, D: 1, A: 1, B: 1, K: 1}} {
			wantIs(t, fmt.Sprint(o), with(o), false)
		}
	}
}

// P9.2: -1 where it is said, and nowhere else.
func TestNothing(t *testing.T) {
	for n := range chapter {
		for _, name := range fieldNames {
			o := api.Op{Code: n}
			*field(&o, name) = -1
			want := n == api.ICall && name == "D" || n == api.IRet && name == "A"
			wantIs(t, fmt.Sprint(o), with(o), want)
			*field(&o, name) = -2
			wantIs(t, fmt.Sprint(o), with(o), false)
		}
	}
}

// P9.2: rows that end at the last register, and one behind it; rows of none, which may stand behind the last one.
func TestRows(t *testing.T) {
	for regs := range api.MaxRegs + 1 {
		for k, length := range []int{2, 12, 1} {
			for at := -1; at <= regs+1; at++ {
				wantRow(t, regs, api.Op{Code: api.IMake, A: at, K: k}, regs > 0 && at >= 0 && at+length <= regs)
			}
		}
		for k, length := range []int{2, 0, 12} {
			for at := -1; at <= regs+1; at++ {
				wantRow(t, regs, api.Op{Code: api.ICall, D: -1, A: at, K: k}, at >= 0 && at+length <= regs)
			}
		}
		for k, length := range []int{1, 0, 12} {
			for at := -1; at <= regs+1; at++ {
				wantRow(t, regs, api.Op{Code: api.IAfter, B: at, K: k}, regs > 0 && at >= 0 && at+length <= regs)
			}
		}
	}
	for _, at := range []int{math.MaxInt, math.MaxInt - 1, math.MaxInt - 12, math.MinInt, math.MinInt + 1, 1 << 32, 65} {
		wantRow(t, 64, api.Op{Code: api.IMake, A: at, K: 1}, false)
		wantRow(t, 64, api.Op{Code: api.ICall, A: at, K: 1}, false)
		wantRow(t, 64, api.Op{Code: api.ICall, A: at, K: 2}, false)
		wantRow(t, 64, api.Op{Code: api.IAfter, B: at, K: 1}, false)
		wantRow(t, 64, api.Op{Code: api.IAfter, B: at, K: 2}, false)
	}
}

// wantRow: in a handler without parameters.
func wantRow(t *testing.T, regs int, o api.Op, want bool) {
	t.Helper()
	c := sample()
	c.Events[1] = api.Fn{Regs: regs, Ops: []api.Op{o}}
	wantIs(t, fmt.Sprint(regs, " registers, ", o), c, want)
}

// P9.2: a jump goes to an instruction of its own function, itself and its neighbours too.
func TestJumps(t *testing.T) {
	for _, n := range []int{api.IJump, api.IUnless} {
		for count := 1; count < 6; count++ {
			for at := range count {
				for to := -1; to <= count+1; to++ {
					c := sample()
					c.Events[0].Ops = charges(count)
					c.Events[0].Ops[at] = api.Op{Code: n, K: to}
					wantIs(t, fmt.Sprint("jump from ", at, " of ", count, " to ", to), c, 0 <= to && to < count)
				}
			}
		}
	}
}

// P9.2: K of a code that has none of what K names.
func TestNothingToName(t *testing.T) {
	empty := func(o api.Op) api.Code {
		return api.Code{Program: api.Program{Events: []api.Sig{{Name: "e"}}}, Events: []api.Fn{{Regs: 2, Ops: []api.Op{o}}}}
	}
	for n := range chapter {
		word, _ := fieldWord(n, "K")
		want := !slices.Contains([]string{"=int", "=text", "=record", "=map", "=func"}, word)
		wantIs(t, fmt.Sprint(n), empty(api.Op{Code: n}), want)
	}
	wantIs(t, "nothing", api.Code{}, true)
}

// P9.2: one fault, wherever it stands.
func TestWhereAFaultStands(t *testing.T) {
	for i := range bodies(sample()) {
		for at := range 7 {
			for _, o := range []api.Op{{}, {Code: 41}, {Code: api.ICharge, D: 1}, {Code: api.IMove, A: 20}, {Code: api.IInt, K: 5}, {Code: api.IJump, K: 7}} {
				c := sample()
				bodies(c)[i].Ops[at] = o
				wantIs(t, fmt.Sprint(o, " at ", at, " of ", i), c, false)
			}
		}
	}
}

// P9.2: each function's registers are its own.
func TestRegistersOfEach(t *testing.T) {
	for i := range bodies(sample()) {
		for regs := 12; regs <= api.MaxRegs; regs++ {
			c := sample()
			f := bodies(c)[i]
			f.Regs, f.Ops = regs, []api.Op{{Code: api.IMove, D: regs - 1, A: regs - 1}}
			wantIs(t, fmt.Sprint("the last of ", regs), c, true)
			f.Ops[0].D++
			wantIs(t, fmt.Sprint("one behind ", regs), c, false)
		}
	}
}

// P9.2: Regs from the number of the parameters to MaxRegs.
func TestHowManyRegisters(t *testing.T) {
	for i, params := range []int{2, 0, 12, 1, 0, 12} {
		for _, regs := range []int{-1, 0, 1, 2, 3, 11, 12, 13, 63, 64, 65, 66, 1 << 32, math.MaxInt, math.MinInt} {
			c := sample()
			bodies(c)[i].Regs = regs
			wantIs(t, fmt.Sprint(regs, " of ", params), c, params <= regs && regs <= 64)
		}
	}
}

// P9.2: 1 to MaxOps instructions.
func TestHowManyOps(t *testing.T) {
	for i := range bodies(sample()) {
		for _, count := range []int{0, 1, 1999, 2000, 2001, 5000} {
			c := sample()
			bodies(c)[i].Ops = charges(count)
			wantIs(t, fmt.Sprint(count, " instructions"), c, 1 <= count && count <= 2000)
		}
		c := sample()
		bodies(c)[i].Ops = append(charges(1999), api.Op{Code: api.IJump, K: 1999})
		wantIs(t, "a jump to the last one", c, true)
		bodies(c)[i].Ops[1999].K = 2000
		wantIs(t, "a jump behind it", c, false)
	}
}

// P9.2: at most 1000 constants of a sort, each text of at most MaxText bytes.
func TestHowManyConstants(t *testing.T) {
	for _, count := range []int{0, 1, 999, 1000, 1001, 2000} {
		c := sample()
		c.Ints = make([]int64, count)
		wantIs(t, fmt.Sprint(count, " integers"), c, count <= 1000)
		c = sample()
		c.Texts = make([]string, count)
		wantIs(t, fmt.Sprint(count, " texts"), c, count <= 1000)
	}
	c := sample()
	c.Ints, c.Texts = make([]int64, 1000), make([]string, 1000)
	c.Funcs[0].Ops = []api.Op{{Code: api.IInt, K: 999}, {Code: api.IText, K: 999}, {Code: api.IAsk, K: 999}}
	wantIs(t, "the last constants", c, true)
	for i := range c.Funcs[0].Ops {
		c.Funcs[0].Ops[i].K = 1000
		wantIs(t, "one behind them", c, false)
		c.Funcs[0].Ops[i].K = 999
	}
	for _, length := range []int{0, 1, 63, 64, 65, 66, 1000} {
		for at := range 4 {
			c := sample()
			c.Texts[at] = strings.Repeat("x", length)
			wantIs(t, fmt.Sprint(length, " bytes"), c, length <= 64)
		}
	}
}

// P9.2: as many functions and handlers as the program says.
func TestHowManyFunctions(t *testing.T) {
	f := api.Fn{Regs: 20, Ops: charges(7)}
	for what, change := range map[string]func(c *api.Code){
		"a function too few": func(c *api.Code) { c.Funcs = c.Funcs[:2] },
		"no function":        func(c *api.Code) { c.Funcs = nil },
		"a function more":    func(c *api.Code) { c.Funcs = append(c.Funcs, f) },
		"a handler too few":  func(c *api.Code) { c.Events = c.Events[:2] },
		"no handler":         func(c *api.Code) { c.Events = nil },
		"a handler more":     func(c *api.Code) { c.Events = append(c.Events, f) },
		"one for the other":  func(c *api.Code) { c.Funcs, c.Events = append(c.Funcs, f), c.Events[:2] },
		"another way round":  func(c *api.Code) { c.Funcs, c.Events = c.Funcs[:2], append(c.Events, f) },
		"no declarations":    func(c *api.Code) { c.Program = api.Program{} },
		"no bodies":          func(c *api.Code) { c.Funcs, c.Events = nil, nil },
	} {
		c := sample()
		change(&c)
		wantIs(t, what, c, false)
	}
	c := sample()
	c.Program.Funcs, c.Funcs = nil, nil
	wantIs(t, "handlers alone", c, true)
	c = sample()
	c.Program.Events, c.Events = nil, nil
	wantIs(t, "functions alone", c, true)
}

// P9.2: a program that isn't value.Right.
func TestProgramsThatAreNone(t *testing.T) {
	for what, change := range map[string]func(p *api.Program){
		"a record's name":     func(p *api.Program) { p.Records[2].Name = "r" },
		"no fields":           func(p *api.Program) { p.Records[2].Fields, p.Records[2].Types = nil, nil },
		"a field too many":    func(p *api.Program) { p.Records[0].Fields = append(p.Records[0].Fields, "z") },
		"a type too many":     func(p *api.Program) { p.Records[0].Types = append(p.Records[0].Types, intType) },
		"a record in another": func(p *api.Program) { p.Records[0].Types[0] = recordOf(2) },
		"a map's key":         func(p *api.Program) { p.Maps[0].Key = boolType },
		"a map's value":       func(p *api.Program) { p.Maps[0].Value = recordOf(3) },
		"two of one name":     func(p *api.Program) { p.Funcs[1].Name = "f" },
		"a parameter":         func(p *api.Program) { p.Funcs[0].Params[1] = api.Type{} },
		"a result":            func(p *api.Program) { p.Funcs[0].Result.Rec = 1 },
		"a handler's result":  func(p *api.Program) { p.Events[0].Result = intType },
		"many parameters":     func(p *api.Program) { p.Events[2].Params = append(p.Events[2].Params, intType) },
		"a long name":         func(p *api.Program) { p.Events[0].Name = strings.Repeat("x", 21) },
	} {
		c := sample()
		change(&c.Program)
		wantIs(t, what, c, false)
	}
}

// P9.2: the most that may be of everything.
func TestGreatCode(t *testing.T) {
	c := great()
	wantIs(t, "the greatest", c, true)
	b, _ := code.Encode(c)
	if d, err := code.Decode(b); err != api.OK || !code.Same(c, d) {
		t.Errorf("the greatest doesn't come back: %d", err)
	}
}

func great() api.Code {
	var c api.Code
	for i := range api.MaxDecls {
		name := strings.Repeat("x", 19) + string(rune('a'+i))
		params := slices.Repeat([]api.Type{recordOf(15)}, api.MaxItems)
		c.Program.Records = append(c.Program.Records, api.RecordType{Name: "R" + name[1:], Fields: program().Records[1].Fields, Types: program().Records[1].Types})
		c.Program.Maps = append(c.Program.Maps, api.MapType{Name: name, Key: textType, Value: recordOf(15)})
		c.Program.Funcs = append(c.Program.Funcs, api.Sig{Name: name, Params: params, Result: recordOf(15)})
		c.Program.Events = append(c.Program.Events, api.Sig{Name: name, Params: params})
		f := api.Fn{Regs: api.MaxRegs, Ops: slices.Repeat([]api.Op{{Code: api.INext, D: 63, A: 63, B: 63, K: 15}}, api.MaxOps)}
		c.Funcs, c.Events = append(c.Funcs, f), append(c.Events, f)
	}
	for i := range 1000 {
		c.Ints = append(c.Ints, math.MinInt64+int64(i))
		c.Texts = append(c.Texts, strings.Repeat("t", api.MaxText))
	}
	return c
}

// P9.2: codes by chance, as they are and spoilt, against the chapter's words said over.
func TestIsByChance(t *testing.T) {
	k := maker{rand.New(rand.NewSource(91))}
	taken := 0
	for range 3000 {
		c := k.code()
		wantIs(t, fmt.Sprint(c), c, true)
		k.spoil(&c)
		want := model(c)
		wantIs(t, fmt.Sprint(c), c, want)
		if want {
			taken++
		}
	}
	if taken < 100 || taken > 2900 {
		t.Errorf("%d spoilt ones are taken", taken)
	}
}
