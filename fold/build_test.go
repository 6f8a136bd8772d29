package fold_test

import (
	"fmt"
	"math/rand"
	"slices"
	"strconv"
	"strings"
	"testing"

	"windlass/api"
	"windlass/code"
	"windlass/flow"
	"windlass/fold"
	"windlass/verify"
	"windlass/vm"
)

var (
	noType   = api.Type{}
	intType  = api.Type{Kind: api.Int}
	textType = api.Type{Kind: api.Text}
	boolType = api.Type{Kind: api.Bool}
	pair     = api.Type{Kind: api.Record}
)

// The maps of the program below, its functions, its handlers, by their numbers.
const (
	numbers = iota
	texts
	pairs
	mapCount
)

const (
	fnAdd = iota
	fnSay
	fnNothing
	fnPair
	fnCount
)

const (
	onE = iota
	onInt
	onText
	onBool
	onPair
	eventCount
)

func program() api.Program {
	return api.Program{
		Records: []api.RecordType{
			{Name: "Pair", Fields: []string{"x", "s"}, Types: []api.Type{intType, textType}}, {Name: "Two", Fields: []string{"a", "b"}, Types: []api.Type{intType, intType}},
			{Name: "One", Fields: []string{"a"}, Types: []api.Type{boolType}},
		},
		Maps: []api.MapType{
			{Name: "numbers", Key: intType, Value: intType}, {Name: "texts", Key: textType, Value: textType}, {Name: "pairs", Key: intType, Value: pair},
		},
		Funcs: []api.Sig{
			{Name: "add", Params: []api.Type{intType, intType}, Result: intType}, {Name: "say", Params: []api.Type{textType}, Result: textType},
			{Name: "nothing"}, {Name: "pair", Result: pair},
		},
		Events: []api.Sig{
			{Name: "e", Params: []api.Type{intType, textType, boolType}}, {Name: "int", Params: []api.Type{intType}},
			{Name: "text", Params: []api.Type{textType}}, {Name: "bool", Params: []api.Type{boolType}}, {Name: "pair", Params: []api.Type{pair}},
		},
	}
}

// op: the fields in the order D, A, B, K.
func op(code int, fields ...int) api.Op {
	o := api.Op{Code: code}
	for i, n := range fields {
		*[]*int{&o.D, &o.A, &o.B, &o.K}[i] = n
	}
	return o
}

func be(d, k int) api.Op                       { return op(api.IBool, d, 0, 0, k) }
func move(d, a int) api.Op                     { return op(api.IMove, d, a) }
func ret(a int, ops ...api.Op) api.Block       { return api.Block{Ops: ops, End: api.IRet, A: a} }
func jump(to int, ops ...api.Op) api.Block     { return api.Block{Ops: ops, End: api.IJump, To: to} }
func charged(ops ...api.Op) []api.Op           { return append([]api.Op{op(api.ICharge)}, ops...) }
func graph(regs int, b ...api.Block) api.Graph { return api.Graph{Regs: regs, Blocks: b} }

func unless(a, to, other int, ops ...api.Op) api.Block {
	return api.Block{Ops: ops, End: api.IUnless, A: a, To: to, Else: other}
}

// regs: of e; its arguments are in registers 0 (an integer), 1 (a text), 2 (a truth); tell needs the last one.
const regs = 24

// tell: a register's value is told to the handler of its type.
func (s *sheet) tell(register int, t api.Type) []api.Op {
	handler := map[api.Type]int{intType: onInt, textType: onText, boolType: onBool, pair: onPair}[t]
	return []api.Op{s.num(regs-1, 1), op(api.IAfter, 0, regs-1, register, handler)}
}

// sheet: constants, named as instructions are written.
type sheet struct {
	ints  []int64
	texts []string
}

func (s *sheet) num(d int, n int64) api.Op {
	k := slices.Index(s.ints, n)
	if k < 0 {
		k = len(s.ints)
		s.ints = append(s.ints, n)
	}
	return op(api.IInt, d, 0, 0, k)
}

func (s *sheet) textNumber(x string) int {
	k := slices.Index(s.texts, x)
	if k < 0 {
		k = len(s.texts)
		s.texts = append(s.texts, x)
	}
	return k
}

func (s *sheet) text(d int, x string) api.Op { return op(api.IText, d, 0, 0, s.textNumber(x)) }
func (s *sheet) ask(d, a int, port string) api.Op {
	return op(api.IAsk, d, a, 0, s.textNumber(port))
}

// give: the instruction by which d has a value.
func (s *sheet) give(d int, v api.Value) api.Op {
	switch v.Kind {
	case api.Int:
		return s.num(d, v.Int)
	case api.Text:
		return s.text(d, v.Text)
	}
	return be(d, int(v.Int))
}

// unit: of that program, whose e has these blocks.
func (s *sheet) unit(blocks ...api.Block) api.Unit {
	u := api.Unit{Program: program(), Ints: s.ints, Texts: s.texts}
	u.Funcs = []api.Graph{
		graph(3, ret(2, charged(op(api.IAdd, 2, 0, 1))...)), graph(1, ret(0, charged(op(api.IEmit, 0, 0))...)), graph(0, ret(-1, charged()...)),
		graph(3, ret(2, charged(s.num(0, 7), s.text(1, "seven"), op(api.IMake, 2, 0, 0, 0))...)),
	}
	u.Ints, u.Texts = s.ints, s.texts
	u.Events = []api.Graph{graph(regs, blocks...)}
	for range eventCount - 1 {
		u.Events = append(u.Events, graph(1, ret(-1, charged()...)))
	}
	return u
}

// unitOf: e does these instructions behind a charge.
func (s *sheet) unitOf(ops ...api.Op) api.Unit { return s.unit(ret(-1, charged(ops...)...)) }

func numbered(n int64) api.Value { return api.Value{Kind: api.Int, Int: n} }
func texted(s string) api.Value  { return api.Value{Kind: api.Text, Text: s} }

func truth(b bool) api.Value {
	v := api.Value{Kind: api.Bool}
	if b {
		v.Int = 1
	}
	return v
}

// spelled: instructions with what their constants say in the place of these's numbers.
func spelled(u api.Unit, ops []api.Op) []string {
	var list []string
	for _, o := range ops {
		switch o.Code {
		case api.IInt:
			list = append(list, fmt.Sprintf("int D=%d %d", o.D, u.Ints[o.K]))
		case api.IText:
			list = append(list, fmt.Sprintf("text D=%d %q", o.D, u.Texts[o.K]))
		case api.IAsk:
			list = append(list, fmt.Sprintf("ask D=%d A=%d %q", o.D, o.A, u.Texts[o.K]))
		default:
			list = append(list, code.Line(o))
		}
	}
	return list
}

// spelled: likewise, of instructions with the sheet's constants.
func (s *sheet) spelled(ops []api.Op) []string {
	return spelled(api.Unit{Ints: s.ints, Texts: s.texts}, ops)
}

// graphs: of functions, then of handlers.
func graphs(u api.Unit) []api.Graph { return slices.Concat(u.Funcs, u.Events) }

// unitSpelled: all of its functions and handlers; of a long one the beginning.
func unitSpelled(u api.Unit) string {
	var out strings.Builder
	for i, g := range graphs(u) {
		fmt.Fprintf(&out, "function %d, %d registers\n", i, g.Regs)
		for j, b := range g.Blocks {
			fmt.Fprintf(&out, " %d: %s; end %d A=%d To=%d Else=%d\n", j, strings.Join(spelled(u, b.Ops), "; "), b.End, b.A, b.To, b.Else)
		}
	}
	return out.String()[:min(out.Len(), 6000)]
}

func codeOf(t *testing.T, u api.Unit) api.Code {
	t.Helper()
	c, err := flow.Flatten(u)
	if err != api.OK || !flow.Is(u) {
		t.Fatalf("P14.1: no unit: %d\n%s", err, unitSpelled(u))
	}
	if fn, err := verify.Check(c); err != api.OK {
		t.Fatalf("P14.1: it isn't taken: %d in %d\n%s", err, fn, unitSpelled(u))
	}
	return c
}

func size(c api.Code) int {
	n := 0
	for _, f := range slices.Concat(c.Funcs, c.Events) {
		n += len(f.Ops)
	}
	return n
}

// passed: Pass of a unit that must be taken; all that P14.1 says of what is told, but for its runs, and P14.2. (P14.2 isn't held of a u that is told because of its constants.)
func passed(t *testing.T, u api.Unit) api.Unit {
	t.Helper()
	v := passedOnce(t, u)
	again := passedOnce(t, v)
	if shown(again) != shown(v) {
		t.Errorf("P14.2: a second time it is another one:\n%s%s", unitSpelled(v), unitSpelled(again))
	}
	if at := leftOver(v); at != "" {
		t.Errorf("P14.2: %s isn't reckoned:\n%s", at, unitSpelled(v))
	}
	return v
}

func passedOnce(t *testing.T, u api.Unit) api.Unit {
	t.Helper()
	c := codeOf(t, u)
	before := shown(u)
	v, err := fold.Pass(u)
	if err != api.OK {
		t.Fatalf("P14.1: %d of\n%s", err, unitSpelled(u))
	}
	if shown(u) != before {
		t.Errorf("an argument was changed")
	}
	folded := codeOf(t, v)
	if shown(v.Program) != shown(u.Program) {
		t.Errorf("P14.1: another program")
	}
	if size(folded) > size(c) {
		t.Errorf("P14.1: %d instructions, %d before", size(folded), size(c))
	}
	return v
}

// run: an event, and on what.
type run struct {
	state   api.State
	event   api.Event
	answers []string
	waiting int
}

// wantAlike: that a run of both units' code tells the same; it is told.
func wantAlike(t *testing.T, u, v api.Unit, r run) api.Outcome {
	t.Helper()
	return wantCodesAlike(t, codeOf(t, u), codeOf(t, v), u, v, r)
}

func wantCodesAlike(t *testing.T, c, folded api.Code, u, v api.Unit, r run) api.Outcome {
	t.Helper()
	want, err := vm.Run(c, r.state, r.event, r.answers, r.waiting)
	got, gotErr := vm.Run(folded, r.state, r.event, r.answers, r.waiting)
	if err != api.OK || gotErr != api.OK {
		t.Fatalf("%d, %d of %s", err, gotErr, shown(r))
	}
	if shown(got) != shown(want) {
		t.Errorf("P14.1: %s: %s, want %s\n%s\nbecame\n%s", shown(r), shown(got), shown(want), unitSpelled(u), unitSpelled(v))
	}
	return want
}

func blank() api.State { return api.State{Maps: make([][]api.Entry, mapCount)} }

// filled: each map has as many entries as that.
func filled(count int) api.State {
	s := blank()
	for i := range int64(count) {
		name := texted("k" + strconv.FormatInt(100+i, 10))
		s.Maps[numbers] = append(s.Maps[numbers], api.Entry{Key: numbered(2*i - 2), Value: numbered(i + 5)})
		s.Maps[texts] = append(s.Maps[texts], api.Entry{Key: name, Value: name})
		s.Maps[pairs] = append(s.Maps[pairs], api.Entry{Key: numbered(i), Value: api.Value{Kind: api.Record, Fields: []api.Value{numbered(i), name}}})
	}
	return s
}

func eventOf(n int64, s string, b bool) api.Event {
	return api.Event{Name: "e", Args: []api.Value{numbered(n), texted(s), truth(b)}}
}

// someRuns: of e: on maps without anything, with something and full; with no answers, some and ones that are too long; with room for timers and without.
func someRuns() []run {
	r := rand.New(rand.NewSource(140))
	var list []run
	for i, n := range []int64{0, 1, -3, 50, -1 << 63, 1<<63 - 1} {
		for j, answers := range [][]string{nil, {"x"}, {"x", "y", "", "z", "w"}, {strings.Repeat("z", 64), strings.Repeat("z", 65)}} {
			state := []api.State{blank(), filled(3), filled(24)}[(i+j)%3]
			event := eventOf(n, []string{"", "x", "k101", strings.Repeat("y", 64)}[r.Intn(4)], r.Intn(2) == 0)
			list = append(list, run{state, event, answers, []int{-1, 0, 11, 12}[r.Intn(4)]})
		}
	}
	return list
}

// wantFolded: that e of u, a block, becomes these instructions; u and what is told do the same.
func wantFolded(t *testing.T, what string, u api.Unit, want []string) api.Unit {
	t.Helper()
	v := passed(t, u)
	if got := spelled(v, v.Events[onE].Blocks[0].Ops); !slices.Equal(got, want) {
		t.Errorf("P14.2: %s: %q, want %q", what, got, want)
	}
	c, folded := codeOf(t, u), codeOf(t, v)
	for _, r := range someRuns() {
		wantCodesAlike(t, c, folded, u, v, r)
	}
	return v
}
