package code_test

import (
	"math/rand"
	"slices"
	"strconv"
	"strings"
	"testing"

	"windlass/api"
	"windlass/code"
	"windlass/value"
)

var (
	intType  = api.Type{Kind: api.Int}
	textType = api.Type{Kind: api.Text}
	boolType = api.Type{Kind: api.Bool}
)

func recordOf(rec int) api.Type { return api.Type{Kind: api.Record, Rec: rec} }

// program: records of 2, 12 and 1 fields; functions of 2, 0 and 12 parameters; handlers of 1, 0 and 12.
func program() api.Program {
	twelve := slices.Repeat([]api.Type{intType, boolType, textType}, 4)
	records := slices.Repeat([]api.Type{recordOf(2), textType}, 6)
	return api.Program{
		Records: []api.RecordType{
			{Name: "P", Fields: []string{"x", "s"}, Types: []api.Type{intType, textType}},
			{Name: "Q", Fields: strings.Split("abcdefghijkl", ""), Types: slices.Clone(twelve)},
			{Name: "R", Fields: []string{"b"}, Types: []api.Type{boolType}},
		},
		Maps:   []api.MapType{{Name: "m", Key: intType, Value: textType}, {Name: "n", Key: textType, Value: recordOf(1)}},
		Funcs:  []api.Sig{{Name: "f", Params: []api.Type{intType, textType}, Result: intType}, {Name: "g"}, {Name: "h", Params: records, Result: recordOf(0)}},
		Events: []api.Sig{{Name: "e", Params: []api.Type{intType}}, {Name: "f"}, {Name: "g", Params: slices.Clone(twelve)}},
	}
}

// sample: a code with that program, 5 integers and 4 texts, each function with 20 registers and 7 instructions.
func sample() api.Code {
	c := api.Code{Program: program(), Ints: []int64{0, 5, -1 << 63, 1<<63 - 1, 5}, Texts: []string{"", "port", "\xFF\n\x00", strings.Repeat("z", api.MaxText)}}
	for range 3 {
		c.Funcs = append(c.Funcs, api.Fn{Regs: 20, Ops: charges(7)})
		c.Events = append(c.Events, api.Fn{Regs: 20, Ops: charges(7)})
	}
	return c
}

func charges(count int) []api.Op { return slices.Repeat([]api.Op{{Code: api.ICharge}}, count) }

// with: the sample, with o as the fourth instruction of a function.
func with(o api.Op) api.Code {
	c := sample()
	c.Funcs[0].Ops[3] = o
	return c
}

// bodies: the functions and handlers of a code.
func bodies(c api.Code) []*api.Fn {
	var list []*api.Fn
	for i := range c.Funcs {
		list = append(list, &c.Funcs[i])
	}
	for i := range c.Events {
		list = append(list, &c.Events[i])
	}
	return list
}

// chapter: the fields of each instruction, as P9.1 has them: "?": it may be -1; "..": a row; "=": what K names.
var chapter = func() map[int]string {
	table := map[int]string{
		api.IInt: "D K=int", api.IText: "D K=text", api.IBool: "D K=truth", api.IMove: "D A",
		api.IMake: "D A.. K=record", api.IField: "D A K=field",
		api.IGet: "D A K=map", api.IHas: "D A K=map", api.IPut: "A B K=map", api.IDel: "A K=map", api.INext: "D A B K=map",
		api.ICall: "D? A.. K=func", api.IAsk: "D A K=text", api.IEmit: "A", api.IAfter: "A B.. K=event",
		api.ICharge: "", api.IEnter: "", api.ILeave: "",
		api.IJump: "K=jump", api.IUnless: "A K=jump", api.IRet: "A?",
	}
	for _, code := range []int{api.IAdd, api.ISub, api.IMul, api.IWAdd, api.IWSub, api.IWMul, api.IDiv, api.IMod, api.ICat, api.IEq, api.INe, api.ILt, api.ILe, api.IGt, api.IGe} {
		table[code] = "D A B"
	}
	for _, code := range []int{api.INeg, api.INot, api.ILen, api.IStr} {
		table[code] = "D A"
	}
	return table
}()

var fieldNames = []string{"D", "A", "B", "K"}

func field(o *api.Op, name string) *int {
	switch name {
	case "D":
		return &o.D
	case "A":
		return &o.A
	case "B":
		return &o.B
	}
	return &o.K
}

// fieldWord: what the chapter says of a field behind its name, and whether the instruction has it.
func fieldWord(code int, name string) (string, bool) {
	for _, word := range strings.Fields(chapter[code]) {
		if rest, ok := strings.CutPrefix(word, name); ok {
			return rest, true
		}
	}
	return "", false
}

// rowOf: how many registers the row of o has, if what K names is there.
func rowOf(p api.Program, o api.Op) int {
	if o.K < 0 {
		return 0
	}
	switch {
	case o.Code == api.IMake && o.K < len(p.Records):
		return len(p.Records[o.K].Fields)
	case o.Code == api.ICall && o.K < len(p.Funcs):
		return len(p.Funcs[o.K].Params)
	case o.Code == api.IAfter && o.K < len(p.Events):
		return len(p.Events[o.K].Params)
	}
	return 0
}

// limits: the least and the greatest number of a field of o that P9.2 takes.
func limits(c api.Code, f api.Fn, o api.Op, name string) (int, int) {
	word, has := fieldWord(o.Code, name)
	if !has {
		return 0, 0
	}
	switch word {
	case "":
		return 0, f.Regs - 1
	case "?":
		return -1, f.Regs - 1
	case "..":
		return 0, f.Regs - rowOf(c.Program, o)
	}
	counts := map[string]int{
		"=int": len(c.Ints), "=text": len(c.Texts), "=truth": 2, "=record": len(c.Program.Records), "=field": 12,
		"=map": len(c.Program.Maps), "=func": len(c.Program.Funcs), "=event": len(c.Program.Events), "=jump": len(f.Ops),
	}
	return 0, counts[word] - 1
}

// model: P9.2 said over.
func model(c api.Code) bool {
	p := c.Program
	if !value.Right(p) || len(c.Funcs) != len(p.Funcs) || len(c.Events) != len(p.Events) || len(c.Ints) > 1000 || len(c.Texts) > 1000 {
		return false
	}
	for _, s := range c.Texts {
		if len(s) > 64 {
			return false
		}
	}
	sigs := slices.Concat(p.Funcs, p.Events)
	for i, f := range slices.Concat(c.Funcs, c.Events) {
		if f.Regs < len(sigs[i].Params) || f.Regs > 64 || len(f.Ops) == 0 || len(f.Ops) > 2000 {
			return false
		}
		for _, o := range f.Ops {
			if !modelOp(c, f, o) {
				return false
			}
		}
	}
	return true
}

func modelOp(c api.Code, f api.Fn, o api.Op) bool {
	if _, ok := chapter[o.Code]; !ok {
		return false
	}
	for _, name := range fieldNames {
		least, most := limits(c, f, o, name)
		if n := *field(&o, name); n < least || n > most {
			return false
		}
	}
	return true
}

func wantIs(t *testing.T, what string, c api.Code, want bool) {
	t.Helper()
	if code.Is(c) != want {
		t.Errorf("%s: Is %t", what, !want)
	}
	b, err := code.Encode(c)
	if want != (err == api.OK) || !want && (err != api.ErrCodeForm || len(b) > 0) {
		t.Errorf("%s: Encode: %d, %d bytes", what, err, len(b))
	}
	if d, err := code.Decode(b); want && (err != api.OK || !code.Same(c, d)) {
		t.Errorf("%s: it doesn't come back: %d", what, err)
	}
}

// maker makes codes by chance.
type maker struct{ *rand.Rand }

func (k maker) program() api.Program {
	var p api.Program
	for i := range k.Intn(4) {
		record := api.RecordType{Name: "R" + strconv.Itoa(i)}
		for j := range 1 + k.Intn(12) {
			record.Fields = append(record.Fields, "f"+strconv.Itoa(j))
			record.Types = append(record.Types, api.Type{Kind: api.Int + k.Intn(3)})
		}
		p.Records = append(p.Records, record)
	}
	for i := range k.Intn(4) {
		p.Maps = append(p.Maps, api.MapType{Name: "m" + strconv.Itoa(i), Key: api.Type{Kind: api.Int + k.Intn(2)}, Value: k.typ(p)})
	}
	for i := range k.Intn(4) {
		sig := api.Sig{Name: "f" + strconv.Itoa(i), Params: k.params(p)}
		if k.Intn(2) == 0 {
			sig.Result = k.typ(p)
		}
		p.Funcs = append(p.Funcs, sig)
	}
	for i := range k.Intn(4) {
		p.Events = append(p.Events, api.Sig{Name: "e" + strconv.Itoa(i), Params: k.params(p)})
	}
	return p
}

func (k maker) typ(p api.Program) api.Type {
	if len(p.Records) > 0 && k.Intn(2) == 0 {
		return recordOf(k.Intn(len(p.Records)))
	}
	return api.Type{Kind: api.Int + k.Intn(3)}
}

func (k maker) params(p api.Program) []api.Type {
	var list []api.Type
	for range k.Intn(13) * k.Intn(2) {
		list = append(list, k.typ(p))
	}
	return list
}

// code: one that may be.
func (k maker) code() api.Code {
	c := api.Code{Program: k.program()}
	for range k.Intn(4) {
		c.Ints = append(c.Ints, int64(k.Uint64())>>k.Intn(64))
	}
	for range k.Intn(4) {
		text := make([]byte, k.Intn(65)*k.Intn(2))
		k.Read(text)
		c.Texts = append(c.Texts, string(text))
	}
	for _, sig := range c.Program.Funcs {
		c.Funcs = append(c.Funcs, k.fn(c, sig))
	}
	for _, sig := range c.Program.Events {
		c.Events = append(c.Events, k.fn(c, sig))
	}
	return c
}

func (k maker) fn(c api.Code, sig api.Sig) api.Fn {
	f := api.Fn{Regs: len(sig.Params) + k.Intn(65-len(sig.Params)), Ops: charges(1 + k.Intn(12))}
	for i := range f.Ops {
		f.Ops[i] = k.op(c, f)
	}
	return f
}

// op: one that may be there.
func (k maker) op(c api.Code, f api.Fn) api.Op {
	for {
		o, fits := api.Op{Code: api.IInt + k.Intn(api.IRet)}, true
		for _, name := range []string{"K", "D", "A", "B"} {
			least, most := limits(c, f, o, name)
			if most < least {
				fits = false
				break
			}
			*field(&o, name) = k.near(least, most)
		}
		if fits {
			return o
		}
	}
}

// near: a number from least to most, often one of the two.
func (k maker) near(least, most int) int {
	switch k.Intn(4) {
	case 0:
		return least
	case 1:
		return most
	}
	return least + k.Intn(most-least+1)
}
