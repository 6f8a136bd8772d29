package emit_test

import (
	"fmt"
	"iter"
	"slices"
	"strings"
	"testing"

	"windlass/api"
	"windlass/code"
	"windlass/emit"
	"windlass/flow"
	"windlass/lower"
	"windlass/parse"
	"windlass/verify"
	"windlass/vm"
)

const allPasses = api.PassFold | api.PassDead | api.PassInline | api.PassFuse

// subsets hands on each choice of passes.
func subsets() iter.Seq[int] {
	return func(yield func(int) bool) {
		for passes := range allPasses + 1 {
			if !yield(passes) {
				return
			}
		}
	}
}

// subsetsWith hands on each choice in which this pass is on.
func subsetsWith(pass int) iter.Seq[int] {
	return func(yield func(int) bool) {
		for passes := range subsets() {
			if passes&pass != 0 && !yield(passes) {
				return
			}
		}
	}
}

// otherBits: those that count for nothing.
var otherBits = []int{0, 16, 32, 64, 1 << 20, 1 << 40, 1 << 62, -1 << 63, -16, 0x55550}

// unitOf: the unit of a source that must be taken; what P18.1 says of it and its code is held.
func unitOf(t *testing.T, source string, passes int) api.Unit {
	t.Helper()
	u, at, err := emit.Unit(source, passes)
	if err != api.OK || at != 0 {
		t.Fatalf("P18.1: Unit with %d: %d at %d\n%s", passes, err, at, source)
	}
	flat, err := flow.Flatten(u)
	if err != api.OK || !flow.Is(u) || shown(flat) != shown(codeOf(t, source, passes)) {
		t.Fatalf("P18.1: with %d it isn't what Flatten tells: %d\n%s", passes, err, source)
	}
	return u
}

// codeOf: the code of a source that must be taken; it must be one that may be run.
func codeOf(t *testing.T, source string, passes int) api.Code {
	t.Helper()
	c, at, err := emit.Compile(source, passes)
	if err != api.OK || at != 0 {
		t.Fatalf("P18.1: Compile with %d: %d at %d\n%s", passes, err, at, source)
	}
	if fn, err := verify.Check(c); err != api.OK {
		t.Fatalf("P18.1: with %d: %d in %d\n%s", passes, err, fn, source)
	}
	return c
}

// lowered: what layers 7 and 13 make of a source.
func lowered(t *testing.T, source string) api.Unit {
	t.Helper()
	x, at, err := parse.Parse(source)
	if err != api.OK {
		t.Fatalf("%d at %d\n%s", err, at, source)
	}
	u, at, err := lower.Lower(x)
	if err != api.OK {
		t.Fatalf("%d at %d\n%s", err, at, source)
	}
	return u
}

func graphs(u api.Unit) []api.Graph { return slices.Concat(u.Funcs, u.Events) }
func fns(c api.Code) []api.Fn       { return slices.Concat(c.Funcs, c.Events) }

// count: how many instructions of these there are in all functions and handlers.
func count(c api.Code, codes ...int) int {
	n := 0
	for _, f := range fns(c) {
		for _, o := range f.Ops {
			if slices.Contains(codes, o.Code) {
				n++
			}
		}
	}
	return n
}

// size: how many instructions a code has.
func size(c api.Code) int {
	n := 0
	for _, f := range fns(c) {
		n += len(f.Ops)
	}
	return n
}

// row: the instructions of a function or handler, of constants with what they are.
func row(c api.Code, f api.Fn) string {
	var list []string
	for _, o := range f.Ops {
		switch o.Code {
		case api.IInt:
			list = append(list, fmt.Sprint(c.Ints[o.K]))
		case api.IText:
			list = append(list, fmt.Sprintf("%q", c.Texts[o.K]))
		case api.IBool:
			list = append(list, []string{"false", "true"}[o.K])
		default:
			list = append(list, strings.Fields(code.Line(o))[0])
		}
	}
	return strings.Join(list, " ")
}

// rows: of all functions, then all handlers.
func rows(c api.Code) string {
	var list []string
	for _, f := range fns(c) {
		list = append(list, row(c, f))
	}
	return strings.Join(list, "; ")
}

func numbered(n int64) api.Value { return api.Value{Kind: api.Int, Int: n} }
func texted(s string) api.Value  { return api.Value{Kind: api.Text, Text: s} }

func truth(b bool) api.Value {
	v := api.Value{Kind: api.Bool}
	if b {
		v.Int = 1
	}
	return v
}

func blank(p api.Program) api.State { return api.State{Maps: make([][]api.Entry, len(p.Maps))} }

// occasion: all that a run hangs on beside the code.
type occasion struct {
	state   api.State
	event   api.Event
	answers []string
	waiting int
}

// run: what vm.Run tells, which must be an outcome.
func run(t *testing.T, c api.Code, o occasion) api.Outcome {
	t.Helper()
	out, err := vm.Run(c, o.state, o.event, o.answers, o.waiting)
	if err != api.OK {
		t.Fatalf("P18.2: %d of %v", err, o)
	}
	return out
}

// outcomes: what vm.Run tells of each of these, shown.
func outcomes(t *testing.T, c api.Code, list []occasion) []string {
	t.Helper()
	var told []string
	for _, o := range list {
		told = append(told, shown(run(t, c, o)))
	}
	return told
}

// wantMeaning: that the code of a source with each choice of passes does on each of these what the code without passes does.
func wantMeaning(t *testing.T, source string, list []occasion) {
	t.Helper()
	want := outcomes(t, codeOf(t, source, 0), list)
	for passes := range subsets() {
		for i, got := range outcomes(t, codeOf(t, source, passes), list) {
			if got != want[i] {
				t.Fatalf("P18.2: passes %d: on %v\n%s\nbecame\n%s\n%s", passes, list[i], want[i], got, source)
			}
		}
	}
}
