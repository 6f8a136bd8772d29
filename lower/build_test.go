package lower_test

import (
	"fmt"
	"strings"
	"testing"

	"windlass/api"
	"windlass/flow"
	"windlass/lower"
	"windlass/parse"
	"windlass/value"
	"windlass/verify"
	"windlass/vm"
)

// head: declarations for the handlers that are put behind it. Functions of one letter emit what they are given, and give it back.
const head = `record P { x: int, s: text, b: bool } record Q { a: int, b: int, c: int, d: int }
map m: int -> int; map n: text -> P; map w: text -> text; map q: int -> Q; map o: text -> bool;
fn i(a: int) -> int { emit str(a); return a; } fn s(a: text) -> text { emit a; return a; }
fn b(a: bool) -> bool { if a { emit "t"; } else { emit "f"; } return a; }
fn p(a: int) -> P { emit str(a); return P{x: a, s: str(a), b: a > 0}; } fn z(a: int) { emit str(a); }
fn four(a: int, c: int, d: int, e: int) -> int { return a * 1000 + c * 100 + d * 10 + e; }
fn r(a: int) -> Q { return Q{d: a, b: a + 1, c: a + 2, a: a + 3}; } fn t(a: Q) -> int { return a.a * 1000 + a.b * 100 + a.c * 10 + a.d; }
fn down(a: int) { if a > 0 { do down(a - 1); } } fn far(a: int) -> int { if a == 0 { return 0; } return 1 + far(a - 1); }
on u() { } on v(a: int) { } on y(a: int, c: text, d: P, e: bool) { }
`

// in: a handler with these statements, behind head.
func in(statements string) string { return head + "on e() { " + statements + " }" }

func read(t *testing.T, source string) api.Tree {
	t.Helper()
	x, at, err := parse.Parse(source)
	if err != api.OK {
		t.Fatalf("%s: %d at %d", source, err, at)
	}
	return x
}

// coded: the code of a tree that must be taken; what P13.1 says of it is held.
func coded(t *testing.T, x api.Tree) api.Code {
	t.Helper()
	u, at, err := lower.Lower(x)
	if err != api.OK || at != 0 {
		t.Fatalf("P13.1: %d at %d", err, at)
	}
	c, err := flow.Flatten(u)
	if err != api.OK || !flow.Is(u) {
		t.Fatalf("P13.1: no unit: %d", err)
	}
	if fn, err := verify.Check(c); err != api.OK {
		t.Fatalf("P13.1: %d in %d", err, fn)
	}
	return c
}

// wantRefused: that a tree is refused with this error and place, and nothing beside.
func wantRefused(t *testing.T, what string, x api.Tree, place int, err api.Errno) {
	t.Helper()
	u, at, number := lower.Lower(x)
	if at != place || number != err {
		t.Errorf("P13.1: %s: %d at %d, want %d at %d", what, number, at, err, place)
	}
	if shown(u) != shown(api.Unit{}) {
		t.Errorf("P13.1: %s: something beside an error", what)
	}
}

func numbered(n int64) api.Value { return api.Value{Kind: api.Int, Int: n} }
func texted(s string) api.Value  { return api.Value{Kind: api.Text, Text: s} }

func truth(b bool) api.Value {
	v := api.Value{Kind: api.Bool}
	if b {
		v.Int = 1
	}
	return v
}

func blank(p api.Program) api.State { return api.State{Maps: make([][]api.Entry, len(p.Maps))} }

// run: Run of a tree's code, held against what the tree means.
func run(t *testing.T, x api.Tree, s api.State, e api.Event, answers []string, waiting int) api.Outcome {
	t.Helper()
	return runCode(t, coded(t, x), x, s, e, answers, waiting)
}

func runCode(t *testing.T, c api.Code, x api.Tree, s api.State, e api.Event, answers []string, waiting int) api.Outcome {
	t.Helper()
	o, err := vm.Run(c, s, e, answers, waiting)
	if err != api.OK {
		t.Fatalf("P13.3: %d of %v", err, e)
	}
	if meant := meaning(x, s, e, answers, waiting); shown(o) != shown(meant) {
		t.Errorf("P13.3: %s\n%v on %s with %q, %d: %s\nit means %s", printed(x), e, shown(s), answers, waiting, shown(o), shown(meant))
	}
	return o
}

// does: the outcome of statements, told; on no entries, with these answers.
func does(t *testing.T, statements string, answers ...string) string {
	t.Helper()
	x := read(t, in(statements))
	c := coded(t, x)
	return told(c.Program, runCode(t, c, x, blank(c.Program), api.Event{Name: "e"}, answers, 0))
}

// row: statements, and the outcome of them.
type row struct {
	statements, want string
	answers          []string
}

func wantRows(t *testing.T, promise string, rows []row) {
	t.Helper()
	for _, r := range rows {
		if got := does(t, r.statements, r.answers...); got != r.want {
			t.Errorf("%s: %s: %s, want %s", promise, r.statements, got, r.want)
		}
	}
}

// told: how it ended and with how many charges; what was emitted, asked, set; the entries of the maps.
func told(p api.Program, o api.Outcome) string {
	traps := []string{"", "Over", "Zero", "Long", "Full", "Fuel", "Depth", "Asks", "Emits", "Delay"}
	out := []string{[]string{"done", "trap " + traps[o.Trap], "waits"}[o.End], fmt.Sprint(o.Fuel)}
	if len(o.Emits) > 0 {
		out = append(out, "emits "+strings.Join(o.Emits, ","))
	}
	for _, r := range o.Requests {
		out = append(out, fmt.Sprintf("asks %s(%s)", r.Port, r.Text))
	}
	for _, plan := range o.Plans {
		out = append(out, fmt.Sprintf("after %d %s%s", plan.Delay, plan.Event.Name, values(plan.Event.Args)))
	}
	for k, entries := range o.State.Maps {
		for _, e := range entries {
			out = append(out, fmt.Sprintf("%s[%s]=%s", p.Maps[k].Name, value.Print(e.Key), value.Print(e.Value)))
		}
	}
	return strings.Join(out, " ")
}

func values(list []api.Value) string {
	var out []string
	for _, v := range list {
		out = append(out, value.Print(v))
	}
	return "(" + strings.Join(out, ", ") + ")"
}
