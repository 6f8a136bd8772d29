package verify_test

import (
	"slices"

	"windlass/api"
)

var (
	noType   = api.Type{}
	intType  = api.Type{Kind: api.Int}
	textType = api.Type{Kind: api.Text}
	boolType = api.Type{Kind: api.Bool}
	pair     = api.Type{Kind: api.Record}
	flag     = api.Type{Kind: api.Record, Rec: 1}
)

// allTypes: of the program below, none with them.
var allTypes = []api.Type{noType, intType, textType, boolType, pair, flag}

// The functions of the program below, by their numbers, and its handlers'.
const (
	fnName = iota
	fnNothing
	fnSum
	fnFlag
	onAll
	onNothing
	onTwo
	functionCount
)

// program: two records, four maps, functions with and without results, handlers with all types as params, without any, with two.
func program() api.Program {
	return api.Program{
		Records: []api.RecordType{
			{Name: "Pair", Fields: []string{"x", "s"}, Types: []api.Type{intType, textType}},
			{Name: "Flag", Fields: []string{"b"}, Types: []api.Type{boolType}},
		},
		Maps: []api.MapType{
			{Name: "pairs", Key: intType, Value: pair}, {Name: "truths", Key: textType, Value: boolType},
			{Name: "texts", Key: intType, Value: textType}, {Name: "numbers", Key: textType, Value: intType},
		},
		Funcs: []api.Sig{
			{Name: "name", Params: []api.Type{pair}, Result: textType}, {Name: "nothing"},
			{Name: "sum", Params: []api.Type{intType, boolType}, Result: intType}, {Name: "flag", Result: flag},
		},
		Events: []api.Sig{
			{Name: "all", Params: []api.Type{intType, textType, boolType, pair, flag}}, {Name: "nothing"},
			{Name: "two", Params: []api.Type{textType, intType}},
		},
	}
}

func charge() api.Op            { return api.Op{Code: api.ICharge} }
func enter() api.Op             { return api.Op{Code: api.IEnter} }
func leave() api.Op             { return api.Op{Code: api.ILeave} }
func jump(k int) api.Op         { return api.Op{Code: api.IJump, K: k} }
func unless(a, k int) api.Op    { return api.Op{Code: api.IUnless, A: a, K: k} }
func ret(a int) api.Op          { return api.Op{Code: api.IRet, A: a} }
func end() api.Op               { return ret(-1) }
func number(d int) api.Op       { return api.Op{Code: api.IInt, D: d} }
func text(d int) api.Op         { return api.Op{Code: api.IText, D: d} }
func truth(d int) api.Op        { return api.Op{Code: api.IBool, D: d} }
func move(d, a int) api.Op      { return api.Op{Code: api.IMove, D: d, A: a} }
func record(d, a, k int) api.Op { return api.Op{Code: api.IMake, D: d, A: a, K: k} }

func charges(count int) []api.Op { return slices.Repeat([]api.Op{charge()}, count) }

// sample: a code of that program that is taken, each function as short as may be.
func sample() api.Code {
	short := []api.Op{charge(), end()}
	return api.Code{
		Program: program(),
		Ints:    []int64{1, -7, 0},
		Texts:   []string{"a", "port"},
		Funcs: []api.Fn{
			{Regs: 2, Ops: []api.Op{charge(), {Code: api.IField, D: 1, A: 0, K: 1}, ret(1)}},
			{Ops: slices.Clone(short)},
			{Regs: 2, Ops: []api.Op{charge(), ret(0)}},
			{Regs: 2, Ops: []api.Op{charge(), truth(0), record(1, 0, 1), ret(1)}},
		},
		Events: []api.Fn{{Regs: 5, Ops: slices.Clone(short)}, {Ops: slices.Clone(short)}, {Regs: 2, Ops: slices.Clone(short)}},
	}
}

// body: functions, then handlers.
func body(c *api.Code, fn int) *api.Fn {
	if fn < len(c.Funcs) {
		return &c.Funcs[fn]
	}
	return &c.Events[fn-len(c.Funcs)]
}

// sigOf: functions, then handlers.
func sigOf(c api.Code, fn int) api.Sig { return slices.Concat(c.Program.Funcs, c.Program.Events)[fn] }

// with: the sample, with these registers and instructions as function fn.
func with(fn, regs int, ops ...api.Op) api.Code {
	c := sample()
	*body(&c, fn) = api.Fn{Regs: regs, Ops: ops}
	return c
}

// handler: the sample, with these instructions as the handler without params, of eight registers.
func handler(ops ...api.Op) api.Code { return with(onNothing, 8, ops...) }
