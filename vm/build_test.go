package vm_test

import (
	"fmt"
	"math"
	"reflect"
	"slices"
	"strconv"
	"strings"
	"testing"

	"windlass/api"
	"windlass/verify"
	"windlass/vm"
)

var (
	noType   = api.Type{}
	intType  = api.Type{Kind: api.Int}
	textType = api.Type{Kind: api.Text}
	boolType = api.Type{Kind: api.Bool}
	pair     = api.Type{Kind: api.Record}
	flag     = api.Type{Kind: api.Record, Rec: 1}
	wide     = api.Type{Kind: api.Record, Rec: 2}
)

// The maps of the program below, by their numbers.
const (
	numbers = iota
	texts
	pairs
	truths
	mapCount
)

// Its functions.
const (
	fnAdd = iota
	fnName
	fnNothing
	fnFlag
	fnCount
)

// Its handlers: e does what is looked at, to the others something is told.
const (
	onE = iota
	onInt
	onText
	onBool
	onPair
	onFlag
	onWide
	onTwo
	onNothing
)

// edges: where numbers of 64 bits begin and end to be too great, by sums and by products.
var edges = []int64{math.MinInt64, math.MinInt64 + 1, -1 << 62, -1 << 32, -1 << 31, -3037000500, -3037000499, -7, -2, -1, 0, 1, 2, 7, 3037000499, 3037000500, 1 << 31, 1 << 32, 1 << 62, math.MaxInt64 - 1, math.MaxInt64}

func program(params ...api.Type) api.Program {
	p := api.Program{
		Records: []api.RecordType{
			{Name: "Pair", Fields: []string{"x", "s"}, Types: []api.Type{intType, textType}},
			{Name: "Flag", Fields: []string{"b"}, Types: []api.Type{boolType}},
			{Name: "Wide", Types: slices.Repeat([]api.Type{intType, textType, boolType}, 4)},
		},
		Maps: []api.MapType{
			{Name: "numbers", Key: intType, Value: intType}, {Name: "texts", Key: textType, Value: textType},
			{Name: "pairs", Key: intType, Value: pair}, {Name: "truths", Key: textType, Value: boolType},
		},
		Funcs: []api.Sig{
			{Name: "add", Params: []api.Type{intType, intType}, Result: intType}, {Name: "name", Params: []api.Type{pair}, Result: textType},
			{Name: "nothing"}, {Name: "flag", Result: flag},
		},
		Events: []api.Sig{
			{Name: "e", Params: params}, {Name: "int", Params: []api.Type{intType}}, {Name: "text", Params: []api.Type{textType}},
			{Name: "bool", Params: []api.Type{boolType}}, {Name: "pair", Params: []api.Type{pair}}, {Name: "flag", Params: []api.Type{flag}},
			{Name: "wide", Params: []api.Type{wide}}, {Name: "two", Params: []api.Type{textType, intType}}, {Name: "nothing"},
		},
	}
	for i := range 12 {
		p.Records[2].Fields = append(p.Records[2].Fields, "f"+strconv.Itoa(i))
	}
	return p
}

// op: the fields in the order D, A, B, K.
func op(code int, fields ...int) api.Op {
	o := api.Op{Code: code}
	for i, n := range fields {
		*[]*int{&o.D, &o.A, &o.B, &o.K}[i] = n
	}
	return o
}

func charge() api.Op         { return op(api.ICharge) }
func enter() api.Op          { return op(api.IEnter) }
func leave() api.Op          { return op(api.ILeave) }
func jump(k int) api.Op      { return op(api.IJump, 0, 0, 0, k) }
func unless(a, k int) api.Op { return op(api.IUnless, 0, a, 0, k) }
func ret(a int) api.Op       { return op(api.IRet, 0, a) }
func end() api.Op            { return ret(-1) }
func set(d, k int) api.Op    { return op(api.IInt, d, 0, 0, k) }
func say(d, k int) api.Op    { return op(api.IText, d, 0, 0, k) }
func be(d, k int) api.Op     { return op(api.IBool, d, 0, 0, k) }
func put(a, b, k int) api.Op { return op(api.IPut, 0, a, b, k) }
func emit(a int) api.Op      { return op(api.IEmit, 0, a) }
func ask(d, a, k int) api.Op { return op(api.IAsk, d, a, 0, k) }
func call(d, a, k int) api.Op {
	return op(api.ICall, d, a, 0, k)
}

func after(a, b, k int) api.Op { return op(api.IAfter, 0, a, b, k) }

func times(count int, ops ...api.Op) []api.Op { return slices.Repeat(ops, count) }

// The constants of the code below, by their numbers.
const (
	zero = iota
	one
	many
	minusOne
	thousand
)

const (
	port = iota
	other
	empty
)

// regs: how many registers e has.
const regs = 20

// coded: a code of that program, whose e has these params and does these instructions behind a charge and ahead of its end.
func coded(params []api.Type, ops ...api.Op) api.Code {
	c := api.Code{
		Program: program(params...),
		Ints:    []int64{0, 1, 24, -1, 1000},
		Texts:   []string{"port", "other", ""},
		Funcs: []api.Fn{
			{Regs: 3, Ops: []api.Op{charge(), op(api.IAdd, 2, 0, 1), ret(2)}},
			{Regs: 2, Ops: []api.Op{charge(), op(api.IField, 1, 0, 0, 1), ret(1)}},
			{Ops: []api.Op{charge(), end()}},
			{Regs: 2, Ops: []api.Op{charge(), be(0, 1), op(api.IMake, 1, 0, 0, 1), ret(1)}},
		},
		Events: []api.Fn{{Regs: regs, Ops: slices.Concat([]api.Op{charge()}, ops, []api.Op{end()})}},
	}
	for _, sig := range c.Program.Events[1:] {
		c.Events = append(c.Events, api.Fn{Regs: len(sig.Params), Ops: []api.Op{charge(), end()}})
	}
	return c
}

// numbered, texted, truth, pairOf: values.
func numbered(n int64) api.Value { return api.Value{Kind: api.Int, Int: n} }
func texted(s string) api.Value  { return api.Value{Kind: api.Text, Text: s} }

func truth(b bool) api.Value {
	if b {
		return api.Value{Kind: api.Bool, Int: 1}
	}
	return api.Value{Kind: api.Bool}
}

func recorded(rec int, fields ...api.Value) api.Value {
	return api.Value{Kind: api.Record, Rec: rec, Fields: fields}
}

func pairOf(n int64, s string) api.Value { return recorded(0, numbered(n), texted(s)) }

func typeOf(v api.Value) api.Type { return api.Type{Kind: v.Kind, Rec: v.Rec} }

func typesOf(values []api.Value) []api.Type {
	var list []api.Type
	for _, v := range values {
		list = append(list, typeOf(v))
	}
	return list
}

func eventOf(args ...api.Value) api.Event { return api.Event{Name: "e", Args: args} }

func blank() api.State { return api.State{Maps: make([][]api.Entry, mapCount)} }

// filled: the state whose map m has these keys and values, by turns.
func filled(m int, list ...api.Value) api.State {
	s := blank()
	for i := 0; i < len(list); i += 2 {
		s.Maps[m] = append(s.Maps[m], api.Entry{Key: list[i], Value: list[i+1]})
	}
	return s
}

// full: map numbers has the keys 0, 2 .. 46, each with a hundred more.
func full() api.State {
	s := blank()
	for i := range int64(24) {
		s.Maps[numbers] = append(s.Maps[numbers], api.Entry{Key: numbered(2 * i), Value: numbered(100 + 2*i)})
	}
	return s
}

// listener: the handler to which a value of this type is told.
func listener(t api.Type) int {
	return map[api.Type]int{intType: onInt, textType: onText, boolType: onBool, pair: onPair, flag: onFlag, wide: onWide}[t]
}

// told: a delay of one tick in the last register, by which a register's value is told.
func told(register int, t api.Type) []api.Op {
	return []api.Op{set(regs-1, one), after(regs-1, register, listener(t))}
}

// run: Run of a code that must be verified, with Trace held against it.
func run(t *testing.T, c api.Code, s api.State, e api.Event, answers []string, waiting int) api.Outcome {
	t.Helper()
	if fn, err := verify.Check(c); err != api.OK {
		t.Fatalf("the test's own code is refused: %d in %d", err, fn)
	}
	o, err := vm.Run(c, s, e, answers, waiting)
	if err != api.OK {
		t.Fatalf("P12.1: %d of %v on %v", err, e, s)
	}
	bound, _ := verify.Bound(c)
	done, longest, err := vm.Trace(c, s, e, answers, waiting)
	if err != api.OK || longest > bound || longest > done || done < 1 {
		t.Errorf("P12.4, P12.5: %d done, %d in a row, %d; Bound %d", done, longest, err, bound)
	}
	return o
}

// does: run with an e of these arguments and these instructions, on a state.
func does(t *testing.T, s api.State, args []api.Value, ops ...api.Op) api.Outcome {
	t.Helper()
	return run(t, coded(typesOf(args), ops...), s, eventOf(args...), nil, 0)
}

// wantTrap: the run's trap, and what it leaves: the state, no emissions, no timers.
func wantTrap(t *testing.T, what string, o api.Outcome, trap int, s api.State) {
	t.Helper()
	if o.End != api.Trapped || o.Trap != trap || shown(o.State) != shown(s) || len(o.Emits) > 0 || len(o.Plans) > 0 {
		t.Errorf("P12.3: %s: %s, want trap %d on %s", what, shown(o), trap, shown(s))
	}
}

// wantDone: the end without a trap.
func wantDone(t *testing.T, what string, o api.Outcome) {
	t.Helper()
	if o.End != api.Done || o.Trap != api.TrapNone {
		t.Errorf("P12.3: %s: %s, want its end", what, shown(o))
	}
}

// wantValue: the value that was told last.
func wantValue(t *testing.T, what string, o api.Outcome, want api.Value) {
	t.Helper()
	wantDone(t, what, o)
	if len(o.Plans) == 0 || len(o.Plans[len(o.Plans)-1].Event.Args) != 1 {
		t.Errorf("P9.1: %s: nothing is told: %s", what, shown(o))
		return
	}
	if got := o.Plans[len(o.Plans)-1].Event.Args[0]; shown(got) != shown(want) {
		t.Errorf("P9.1: %s: %s, want %s", what, shown(got), shown(want))
	}
}

// shown: all that hangs on a value; a nil list and an empty one are shown alike.
func shown(x any) string {
	var out strings.Builder
	show(reflect.ValueOf(x), &out)
	return out.String()
}

func show(v reflect.Value, out *strings.Builder) {
	switch v.Kind() {
	case reflect.Slice:
		out.WriteString("[")
		for i := range v.Len() {
			show(v.Index(i), out)
		}
		out.WriteString("]")
	case reflect.Struct:
		out.WriteString("{")
		for i := range v.NumField() {
			if !v.Field(i).IsZero() && (v.Field(i).Kind() != reflect.Slice || v.Field(i).Len() > 0) {
				out.WriteString(v.Type().Field(i).Name + ":")
				show(v.Field(i), out)
			}
		}
		out.WriteString("}")
	case reflect.String:
		out.WriteString(strconv.Quote(v.String()) + " ")
	default:
		out.WriteString(fmt.Sprint(v.Interface()) + " ")
	}
}
