package fuse_test

import (
	"fmt"
	"math/rand"
	"slices"
	"strconv"
	"strings"
	"testing"
	"time"

	"windlass/api"
	"windlass/code"
	"windlass/flow"
	"windlass/fuse"
	"windlass/verify"
	"windlass/vm"
)

var (
	noType   = api.Type{}
	intType  = api.Type{Kind: api.Int}
	textType = api.Type{Kind: api.Text}
	boolType = api.Type{Kind: api.Bool}
	pair     = api.Type{Kind: api.Record}
)

// The maps of the program below, its functions, its handlers, by their numbers.
const (
	numbers = iota
	texts
	pairs
	truths
	lines
	counts
	heads
	flags
	mapCount
)

const (
	fnAdd = iota
	fnSay
	fnNothing
	fnPair
	fnTruth
	fnSet   // writes numbers
	fnWipe  // wipes there
	fnFetch // reads there, twice
	fnCount
)

const (
	onE = iota
	onInt
	onText
	onBool
	onPair
	onNone
	eventCount
)

func program() api.Program {
	return api.Program{
		Records: []api.RecordType{
			{Name: "Pair", Fields: []string{"x", "s"}, Types: []api.Type{intType, textType}}, {Name: "Two", Fields: []string{"a", "b"}, Types: []api.Type{intType, intType}},
			{Name: "One", Fields: []string{"a"}, Types: []api.Type{boolType}},
		},
		Maps: []api.MapType{
			{Name: "numbers", Key: intType, Value: intType}, {Name: "texts", Key: textType, Value: textType}, {Name: "pairs", Key: intType, Value: pair},
			{Name: "truths", Key: intType, Value: boolType}, {Name: "lines", Key: intType, Value: textType}, {Name: "counts", Key: textType, Value: intType},
			{Name: "heads", Key: textType, Value: pair}, {Name: "flags", Key: textType, Value: boolType},
		},
		Funcs: []api.Sig{
			{Name: "add", Params: []api.Type{intType, intType}, Result: intType}, {Name: "say", Params: []api.Type{textType}, Result: textType},
			{Name: "nothing"}, {Name: "pair", Result: pair}, {Name: "truth", Params: []api.Type{boolType}, Result: boolType},
			{Name: "set", Params: []api.Type{intType, intType}}, {Name: "wipe", Params: []api.Type{intType}}, {Name: "fetch", Params: []api.Type{intType}, Result: intType},
		},
		Events: []api.Sig{
			{Name: "e", Params: []api.Type{intType, textType, boolType}}, {Name: "int", Params: []api.Type{intType}},
			{Name: "text", Params: []api.Type{textType}}, {Name: "bool", Params: []api.Type{boolType}}, {Name: "pair", Params: []api.Type{pair}}, {Name: "none"},
		},
	}
}

// op: the fields in the order D, A, B, K.
func op(code int, fields ...int) api.Op {
	o := api.Op{Code: code}
	for i, n := range fields {
		*[]*int{&o.D, &o.A, &o.B, &o.K}[i] = n
	}
	return o
}

func be(d, k int) api.Op                       { return op(api.IBool, d, 0, 0, k) }
func get(d, a, table int) api.Op               { return op(api.IGet, d, a, 0, table) }
func put(a, b, table int) api.Op               { return op(api.IPut, 0, a, b, table) }
func del(a, table int) api.Op                  { return op(api.IDel, 0, a, 0, table) }
func move(d, a int) api.Op                     { return op(api.IMove, d, a) }
func ret(a int, ops ...api.Op) api.Block       { return api.Block{Ops: ops, End: api.IRet, A: a} }
func jump(to int, ops ...api.Op) api.Block     { return api.Block{Ops: ops, End: api.IJump, To: to} }
func charged(ops ...api.Op) []api.Op           { return append([]api.Op{op(api.ICharge)}, ops...) }
func graph(regs int, b ...api.Block) api.Graph { return api.Graph{Regs: regs, Blocks: b} }

func unless(a, to, other int, ops ...api.Op) api.Block {
	return api.Block{Ops: ops, End: api.IUnless, A: a, To: to, Else: other}
}

// regs: of e; its arguments are in registers 0 (an integer), 1 (a text), 2 (a truth); tell needs the last one.
const regs = 24

// tell: a register's value is told to the handler of its type.
func (s *sheet) tell(register int, t api.Type) []api.Op {
	handler := map[api.Type]int{intType: onInt, textType: onText, boolType: onBool, pair: onPair}[t]
	return []api.Op{s.num(regs-1, 1), op(api.IAfter, 0, regs-1, register, handler)}
}

// sheet: constants, named as instructions are written.
type sheet struct {
	ints  []int64
	texts []string
}

func (s *sheet) num(d int, n int64) api.Op {
	k := slices.Index(s.ints, n)
	if k < 0 {
		k = len(s.ints)
		s.ints = append(s.ints, n)
	}
	return op(api.IInt, d, 0, 0, k)
}

func (s *sheet) textNumber(x string) int {
	k := slices.Index(s.texts, x)
	if k < 0 {
		k = len(s.texts)
		s.texts = append(s.texts, x)
	}
	return k
}

func (s *sheet) text(d int, x string) api.Op { return op(api.IText, d, 0, 0, s.textNumber(x)) }
func (s *sheet) ask(d, a int, port string) api.Op {
	return op(api.IAsk, d, a, 0, s.textNumber(port))
}

// unit: of that program, whose e has these blocks.
func (s *sheet) unit(blocks ...api.Block) api.Unit {
	u := api.Unit{Program: program()}
	u.Funcs = []api.Graph{
		graph(3, ret(2, charged(op(api.IAdd, 2, 0, 1))...)), graph(1, ret(0, charged(op(api.IEmit, 0, 0))...)), graph(0, ret(-1, charged()...)),
		graph(3, ret(2, charged(s.num(0, 7), s.text(1, "seven"), op(api.IMake, 2, 0, 0, 0))...)), graph(1, ret(0, charged()...)),
		graph(2, ret(-1, charged(put(0, 1, numbers))...)), graph(1, ret(-1, charged(del(0, numbers))...)), graph(3, ret(2, charged(get(1, 0, numbers), get(2, 0, numbers))...)),
	}
	u.Events = []api.Graph{graph(regs, blocks...)}
	for range eventCount - 1 {
		u.Events = append(u.Events, graph(1, ret(-1, charged()...)))
	}
	// Behind all that is written.
	u.Ints, u.Texts = s.ints, s.texts
	return u
}

func numbered(n int64) api.Value { return api.Value{Kind: api.Int, Int: n} }
func texted(s string) api.Value  { return api.Value{Kind: api.Text, Text: s} }

func truth(b bool) api.Value {
	v := api.Value{Kind: api.Bool}
	if b {
		v.Int = 1
	}
	return v
}

// told: instructions for people.
func told(ops []api.Op) []string {
	var list []string
	for _, o := range ops {
		list = append(list, code.Line(o))
	}
	return list
}

// graphs: of functions, then of handlers.
func graphs(u api.Unit) []api.Graph { return slices.Concat(u.Funcs, u.Events) }

func blocksSpelled(blocks []api.Block) string {
	var out strings.Builder
	for i, b := range blocks {
		fmt.Fprintf(&out, " %d: %s; end %d A=%d To=%d Else=%d\n", i, strings.Join(told(b.Ops), "; "), b.End, b.A, b.To, b.Else)
	}
	return out.String()
}

// unitSpelled: all of its functions and handlers; of a long one the beginning.
func unitSpelled(u api.Unit) string {
	var out strings.Builder
	for i, g := range graphs(u) {
		fmt.Fprintf(&out, "function %d, %d registers\n%s", i, g.Regs, blocksSpelled(g.Blocks))
	}
	return out.String()[:min(out.Len(), 6000)]
}

func codeOf(t *testing.T, u api.Unit) api.Code {
	t.Helper()
	c, err := flow.Flatten(u)
	if err != api.OK || !flow.Is(u) {
		t.Fatalf("P17.1: no unit: %d\n%s", err, unitSpelled(u))
	}
	if fn, err := verify.Check(c); err != api.OK {
		t.Fatalf("P17.1: it isn't taken: %d in %d\n%s", err, fn, unitSpelled(u))
	}
	return c
}

// functions: of handlers behind the others.
func functions(c api.Code) []api.Fn { return slices.Concat(c.Funcs, c.Events) }

// passed: Pass of a unit that must be taken; all that P17.1 says of what is told, but for its runs, P17.2 and P17.3.
func passed(t *testing.T, u api.Unit) api.Unit {
	t.Helper()
	v := passedOnce(t, u)
	if again := passedOnce(t, v); shown(again) != shown(v) {
		t.Errorf("P17.2: a second time it is another one:\n%s%s", unitSpelled(v), unitSpelled(again))
	}
	return v
}

func passedOnce(t *testing.T, u api.Unit) api.Unit {
	t.Helper()
	c := codeOf(t, u)
	before := shown(u)
	v, err := fuse.Pass(u)
	if err != api.OK {
		t.Fatalf("P17.1: %d of\n%s", err, unitSpelled(u))
	}
	if shown(u) != before {
		t.Errorf("an argument was changed")
	}
	left := codeOf(t, v)
	if shown(v.Program) != shown(u.Program) {
		t.Errorf("P17.1: another program")
	}
	for i, f := range functions(left) {
		if was := functions(c)[i]; len(f.Ops) > len(was.Ops) {
			t.Errorf("P17.1: function %d: %d instructions, %d before", i, len(f.Ops), len(was.Ops))
		}
	}
	if twice := readTwice(v); twice != "" {
		t.Errorf("P17.2: %s:\n%s\nbecame\n%s", twice, unitSpelled(u), unitSpelled(v))
	}
	return v
}

// wantSoon: that Pass comes to its end, and not too late.
func wantSoon(t *testing.T, what string, u api.Unit) api.Unit {
	t.Helper()
	begun := time.Now()
	v := passed(t, u)
	if took := time.Since(begun); took > time.Minute {
		t.Errorf("%s: it took %v", what, took)
	}
	return v
}

// run: an event, and on what.
type run struct {
	state   api.State
	event   api.Event
	answers []string
	waiting int
}

// wantAlike: that a run of both units' code tells the same; it is told.
func wantAlike(t *testing.T, u, v api.Unit, r run) api.Outcome {
	t.Helper()
	return wantCodesAlike(t, codeOf(t, u), codeOf(t, v), u, v, r)
}

func wantCodesAlike(t *testing.T, c, left api.Code, u, v api.Unit, r run) api.Outcome {
	t.Helper()
	want, err := vm.Run(c, r.state, r.event, r.answers, r.waiting)
	got, gotErr := vm.Run(left, r.state, r.event, r.answers, r.waiting)
	if err != api.OK || gotErr != api.OK {
		t.Fatalf("%d, %d of %s", err, gotErr, shown(r))
	}
	if shown(got) != shown(want) {
		t.Errorf("P17.1: %s: %s, want %s\n%s\nbecame\n%s", shown(r), shown(got), shown(want), unitSpelled(u), unitSpelled(v))
	}
	return want
}

func blank() api.State { return api.State{Maps: make([][]api.Entry, mapCount)} }

// filled: each map has as many entries as that.
func filled(count int) api.State {
	s := blank()
	for i := range int64(count) {
		name := texted("k" + strconv.FormatInt(100+i, 10))
		s.Maps[numbers] = append(s.Maps[numbers], api.Entry{Key: numbered(2*i - 2), Value: numbered(i + 5)})
		s.Maps[texts] = append(s.Maps[texts], api.Entry{Key: name, Value: name})
		s.Maps[pairs] = append(s.Maps[pairs], api.Entry{Key: numbered(i), Value: api.Value{Kind: api.Record, Fields: []api.Value{numbered(i), name}}})
		s.Maps[truths] = append(s.Maps[truths], api.Entry{Key: numbered(i - 1), Value: truth(i%2 == 0)})
		s.Maps[lines] = append(s.Maps[lines], api.Entry{Key: numbered(i - 3), Value: name})
		s.Maps[counts] = append(s.Maps[counts], api.Entry{Key: name, Value: numbered(i - 7)})
		s.Maps[heads] = append(s.Maps[heads], api.Entry{Key: name, Value: api.Value{Kind: api.Record, Fields: []api.Value{numbered(-i), name}}})
		s.Maps[flags] = append(s.Maps[flags], api.Entry{Key: name, Value: truth(i%3 > 0)})
	}
	return s
}

func eventOf(n int64, s string, b bool) api.Event {
	return api.Event{Name: "e", Args: []api.Value{numbered(n), texted(s), truth(b)}}
}

// someRuns: of e: on maps without anything, with something and full; with no answers, some and ones that are too long; with room for timers and without.
func someRuns() []run {
	r := rand.New(rand.NewSource(170))
	var list []run
	for i, n := range []int64{0, 1, -3, 50, -1 << 63, 1<<63 - 1} {
		for j, answers := range [][]string{nil, {"x"}, {"x", "y", "", "z", "w"}, {strings.Repeat("z", 64), strings.Repeat("z", 65)}} {
			state := []api.State{blank(), filled(3), filled(24)}[(i+j)%3]
			event := eventOf(n, []string{"", "x", "k101", strings.Repeat("y", 64)}[r.Intn(4)], (i+j)%2 == 0)
			list = append(list, run{state, event, answers, []int{-1, 0, 0, 11, 12}[r.Intn(5)]})
		}
	}
	return list
}

// fewRuns: of e: at keys that are there and at others; all but one of them come to an end if nothing traps.
func fewRuns() []run {
	answers := []string{"x", "k101", "z", "w"}
	return []run{
		{filled(3), eventOf(0, "k101", true), answers, 0}, {filled(24), eventOf(2, "k105", false), answers, 0}, {filled(12), eventOf(-1, "x", true), answers, 0},
		{blank(), eventOf(1, "k100", false), answers, 0}, {filled(3), eventOf(50, "", true), answers, 0}, {filled(5), eventOf(1, "k102", false), nil, 0},
	}
}

// wantBlocks: that e of u becomes these blocks; u and what is told do the same.
func wantBlocks(t *testing.T, what string, u api.Unit, want ...api.Block) api.Unit {
	t.Helper()
	v := passed(t, u)
	if got := v.Events[onE].Blocks; blocksSpelled(got) != blocksSpelled(want) {
		t.Errorf("P17.2: %s:\n%s, want\n%s", what, blocksSpelled(got), blocksSpelled(want))
	}
	wantRunsAlike(t, u, v)
	return v
}

func wantRunsAlike(t *testing.T, u, v api.Unit) {
	t.Helper()
	c, left := codeOf(t, u), codeOf(t, v)
	for _, r := range fewRuns() {
		wantCodesAlike(t, c, left, u, v, r)
	}
}

// wantRow: that a handler that does these instructions behind a charge, and then ends, does those.
func (s *sheet) wantRow(t *testing.T, what string, ops, want []api.Op) {
	t.Helper()
	wantBlocks(t, what, s.unit(ret(-1, charged(ops...)...)), ret(-1, charged(want...)...))
}
