package code_test

import (
	"fmt"
	"math"
	"math/rand"
	"slices"
	"strings"
	"testing"

	"windlass/api"
	"windlass/code"
)

func wantUses(t *testing.T, p api.Program, o api.Op, want []int, ok bool) {
	t.Helper()
	used, isTold := code.Uses(p, o)
	if !slices.Equal(used, want) || isTold != ok {
		t.Errorf("Uses of %v: %v, %t, want %v, %t", o, used, isTold, want, ok)
	}
}

func wantGives(t *testing.T, p api.Program, o api.Op, want int, ok bool) {
	t.Helper()
	given, isTold := code.Gives(p, o)
	if given != want || isTold != ok {
		t.Errorf("Gives of %v: %d, %t, want %d, %t", o, given, isTold, want, ok)
	}
}

// P9.3: what each instruction uses and gives.
func TestUsesAndGivesOfEach(t *testing.T) {
	p := program()
	rows := []struct {
		codes []int
		used  []int
		gives bool
	}{
		{[]int{api.IInt, api.IText, api.IBool}, nil, true},
		{[]int{api.IMove, api.INeg, api.INot, api.ILen, api.IStr, api.IField, api.IGet, api.IHas, api.IAsk}, []int{7}, true},
		{[]int{api.IAdd, api.ISub, api.IMul, api.IWAdd, api.IWSub, api.IWMul, api.IDiv, api.IMod, api.ICat, api.IEq, api.INe, api.ILt, api.ILe, api.IGt, api.IGe, api.INext}, []int{7, 5}, true},
		{[]int{api.IMake, api.ICall}, []int{7, 8}, true},
		{[]int{api.IPut}, []int{7, 5}, false},
		{[]int{api.IDel, api.IEmit, api.IUnless, api.IRet}, []int{7}, false},
		{[]int{api.IAfter}, []int{7, 5}, false},
		{[]int{api.ICharge, api.IEnter, api.ILeave, api.IJump}, nil, false},
	}
	count := 0
	for _, row := range rows {
		for _, n := range row.codes {
			count++
			o := api.Op{Code: n, D: 9, A: 7, B: 5}
			wantUses(t, p, o, row.used, true)
			if row.gives {
				wantGives(t, p, o, 9, true)
			} else {
				wantGives(t, p, o, 0, false)
			}
		}
	}
	if count != api.IRet {
		t.Errorf("%d instructions", count)
	}
}

// P9.3: rows of as many registers as the record, function or handler says; none of a row of none.
func TestUsesOfRows(t *testing.T) {
	p := program()
	upTo := func(first, count int) []int {
		var row []int
		for i := range count {
			row = append(row, first+i)
		}
		return row
	}
	for k, length := range []int{2, 12, 1} {
		wantUses(t, p, api.Op{Code: api.IMake, D: 1, A: 3, B: 40, K: k}, upTo(3, length), true)
	}
	for k, length := range []int{2, 0, 12} {
		wantUses(t, p, api.Op{Code: api.ICall, D: 1, A: 3, B: 40, K: k}, upTo(3, length), true)
		wantUses(t, p, api.Op{Code: api.ICall, D: -1, A: 0, K: k}, upTo(0, length), true)
	}
	for k, length := range []int{1, 0, 12} {
		wantUses(t, p, api.Op{Code: api.IAfter, A: 3, B: 40, K: k}, append([]int{3}, upTo(40, length)...), true)
	}
	wantUses(t, p, api.Op{Code: api.ICall, A: 3}, []int{3, 4}, true)
}

// P9.3: a register that is used twice is told twice; the order is A, B, whichever is the greater.
func TestUsesInOrder(t *testing.T) {
	p := program()
	for _, n := range []int{api.IAdd, api.ICat, api.IGe, api.IPut, api.INext} {
		wantUses(t, p, api.Op{Code: n, A: 2, B: 2}, []int{2, 2}, true)
		wantUses(t, p, api.Op{Code: n, A: 1, B: 2}, []int{1, 2}, true)
		wantUses(t, p, api.Op{Code: n, A: 2, B: 1}, []int{2, 1}, true)
	}
	wantUses(t, p, api.Op{Code: api.IAfter, A: 41, B: 40, K: 2}, []int{41, 40, 41, 42, 43, 44, 45, 46, 47, 48, 49, 50, 51}, true)
	wantUses(t, p, api.Op{Code: api.IRet, A: -1}, nil, true)
	wantUses(t, p, api.Op{Code: api.IRet, A: 0}, []int{0}, true)
}

// P9.3: a K beyond what the program has, and K that names nothing of the program's.
func TestUsesOfK(t *testing.T) {
	p := program()
	counts := map[string]int{"=record": 3, "=map": 2, "=func": 3, "=event": 3}
	for n := range chapter {
		word, _ := fieldWord(n, "K")
		count, isOfProgram := counts[word]
		for _, k := range []int{-1, 0, 1, count - 1, count, count + 1, 15, 16, 99, 1000, 1 << 32, math.MaxInt, math.MinInt} {
			_, ok := code.Uses(p, api.Op{Code: n, A: 1, B: 1, K: k})
			want := !isOfProgram || 0 <= k && k < count
			if ok != want {
				t.Errorf("Uses of %d with K %d: %t", n, k, ok)
			}
			if !want {
				wantUses(t, p, api.Op{Code: n, D: 1, A: 1, B: 1, K: k}, nil, false)
			}
			_, gives := fieldWord(n, "D")
			if gives {
				wantGives(t, p, api.Op{Code: n, D: 6, K: k}, 6, true)
			} else {
				wantGives(t, p, api.Op{Code: n, D: 6, K: k}, 0, false)
			}
		}
		_, ok := code.Uses(api.Program{}, api.Op{Code: n})
		if ok == isOfProgram {
			t.Errorf("Uses of %d in a program without anything: %t", n, ok)
		}
	}
}

// P9.3: of a Code that is none.
func TestUsesOfNoCode(t *testing.T) {
	for _, n := range []int{0, -1, 41, 42, 99, 256, 1<<32 + api.IAdd, math.MaxInt, math.MinInt} {
		for _, p := range []api.Program{{}, program()} {
			wantUses(t, p, api.Op{Code: n, D: 1, A: 2, B: 3}, nil, false)
			wantGives(t, p, api.Op{Code: n, D: 1, A: 2, B: 3}, 0, false)
		}
	}
}

// P9.3: D at its edges.
func TestGivesOfD(t *testing.T) {
	for n := range chapter {
		_, has := fieldWord(n, "D")
		for _, d := range []int{math.MinInt, -2, -1, 0, 1, 63, 64, 1 << 32, math.MaxInt} {
			want, ok := 0, has && d >= 0
			if ok {
				want = d
			}
			wantGives(t, program(), api.Op{Code: n, D: d, A: 3, B: 4}, want, ok)
			wantGives(t, api.Program{}, api.Op{Code: n, D: d, K: -1}, want, ok)
		}
	}
}

// P9.3: registers that no function has are told like others; a row at the end of the numbers doesn't stop it.
func TestUsesOfFarRegisters(t *testing.T) {
	p := program()
	for _, n := range []int{math.MinInt, -2, -1, 64, 1 << 32, math.MaxInt} {
		wantUses(t, p, api.Op{Code: api.ISub, A: n, B: 1}, []int{n, 1}, true)
		wantUses(t, p, api.Op{Code: api.ISub, A: 1, B: n}, []int{1, n}, true)
		if n != -1 {
			wantUses(t, p, api.Op{Code: api.IRet, A: n}, []int{n}, true)
		}
		for _, o := range []api.Op{{Code: api.IMake, A: n, K: 1}, {Code: api.ICall, A: n, K: 2}, {Code: api.IAfter, A: 0, B: n, K: 2}} {
			if used, ok := code.Uses(p, o); !ok || len(used) < 12 || used[len(used)-12] != n {
				t.Errorf("Uses of %v: %v, %t", o, used, ok)
			}
		}
	}
}

// P9.3: programs that aren't Right are asked like others.
func TestUsesOfWrongPrograms(t *testing.T) {
	p := api.Program{Records: make([]api.RecordType, 40), Maps: make([]api.MapType, 40), Funcs: make([]api.Sig, 40), Events: make([]api.Sig, 40)}
	p.Records[39].Fields, p.Records[38].Types = make([]string, 30), make([]api.Type, 30)
	p.Funcs[39].Params = make([]api.Type, 20)
	for k, length := range map[int]int{39: 30, 38: 0, 0: 0} {
		if used, ok := code.Uses(p, api.Op{Code: api.IMake, K: k}); !ok || len(used) != length {
			t.Errorf("%v, %t of %d fields", used, ok, length)
		}
	}
	if used, ok := code.Uses(p, api.Op{Code: api.ICall, K: 39}); !ok || len(used) != 20 || used[19] != 19 {
		t.Errorf("%v, %t of 20 parameters", used, ok)
	}
	wantUses(t, p, api.Op{Code: api.IGet, A: 4, K: 39}, []int{4}, true)
	wantUses(t, p, api.Op{Code: api.IGet, A: 4, K: 40}, nil, false)
}

// P9.3: what is used and given by chance, against the chapter's words said over.
func TestUsesByChance(t *testing.T) {
	k := maker{rand.New(rand.NewSource(92))}
	for range 2000 {
		c := k.code()
		for _, f := range bodies(c) {
			for _, o := range f.Ops {
				wantUses(t, c.Program, o, modelUses(c.Program, o), true)
				_, has := fieldWord(o.Code, "D")
				if has && o.D >= 0 {
					wantGives(t, c.Program, o, o.D, true)
				} else {
					wantGives(t, c.Program, o, 0, false)
				}
			}
		}
	}
}

func modelUses(p api.Program, o api.Op) []int {
	var used []int
	for _, name := range []string{"A", "B"} {
		word, has := fieldWord(o.Code, name)
		n := *field(&o, name)
		switch {
		case word == "..":
			for i := range rowOf(p, o) {
				used = append(used, n+i)
			}
		case has && !(word == "?" && n == -1):
			used = append(used, n)
		}
	}
	return used
}

// P9.3: lines of unlike instructions are unlike, and each is one line of at most 120 bytes.
func TestLines(t *testing.T) {
	numbers := []int{0, 1, -1, 11, 111, math.MinInt, math.MaxInt}
	lines := map[string]api.Op{}
	for n := range chapter {
		for i := range 7 * 7 * 7 * 7 {
			o := api.Op{Code: n, D: numbers[i%7], A: numbers[i/7%7], B: numbers[i/49%7], K: numbers[i/343]}
			line := code.Line(o)
			wantLine(t, o, line)
			if other, ok := lines[line]; ok {
				t.Errorf("%v and %v: %q", o, other, line)
			}
			lines[line] = o
		}
	}
	if len(lines) != api.IRet*7*7*7*7 {
		t.Errorf("%d lines", len(lines))
	}
}

func wantLine(t *testing.T, o api.Op, line string) {
	t.Helper()
	if line == "" || len(line) > 120 || strings.ContainsAny(line, "\n\r") || line != code.Line(o) {
		t.Errorf("%v: %q", o, line)
	}
}

// P9.3: lines of Codes that are none, with the longest numbers.
func TestLinesOfNoCode(t *testing.T) {
	for _, n := range []int{0, -1, 10, 41, 99, math.MaxInt, math.MinInt} {
		for _, o := range []api.Op{{Code: n}, {Code: n, D: math.MinInt, A: math.MinInt, B: math.MinInt, K: math.MinInt}, {Code: n, D: math.MaxInt, A: -1, B: 10, K: 10}} {
			wantLine(t, o, code.Line(o))
		}
	}
}

// P9.3: lines by chance, of instructions that differ in one number.
func TestLinesByChance(t *testing.T) {
	k := rand.New(rand.NewSource(93))
	number := func() int { return int(k.Uint64()) >> k.Intn(64) }
	for range 20000 {
		o := api.Op{Code: api.IInt + k.Intn(api.IRet), D: number(), A: number(), B: number(), K: number()}
		other := o
		place := field(&other, fieldNames[k.Intn(4)])
		*place += 1 + k.Intn(12)
		wantLine(t, o, code.Line(o))
		if code.Line(o) == code.Line(other) {
			t.Errorf("%v and %v: %q", o, other, code.Line(o))
		}
		other = o
		other.Code = 1 + o.Code%api.IRet
		if code.Line(o) == code.Line(other) {
			t.Errorf("%v and %v: %q", o, other, code.Line(o))
		}
	}
}

// P9.3: a line is for people: it has the instruction's fields.
func TestLineForPeople(t *testing.T) {
	for o, want := range map[api.Op]string{
		{Code: api.IAdd, D: 3, A: 1, B: 2}:   "add D=3 A=1 B=2",
		{Code: api.ICall, D: -1, A: 3, K: 0}: "call D=-1 A=3 K=0",
		{Code: api.ICharge}:                  "charge",
		{Code: api.ICharge, B: 4}:            "charge B=4",
		{Code: api.IRet, A: -1}:              "ret A=-1",
		{Code: 41, K: 1}:                     "?41 K=1",
	} {
		if line := code.Line(o); line != want {
			t.Errorf("%s: %q, want %q", fmt.Sprint(o), line, want)
		}
	}
}
