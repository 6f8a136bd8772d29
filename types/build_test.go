package types_test

import (
	"reflect"
	"strings"
	"testing"

	"windlass/api"
	"windlass/parse"
	"windlass/types"
	"windlass/value"
)

var (
	none     = api.Type{}
	intType  = api.Type{Kind: api.Int}
	textType = api.Type{Kind: api.Text}
	boolType = api.Type{Kind: api.Bool}
)

func recordOf(rec int) api.Type { return api.Type{Kind: api.Record, Rec: rec} }

// head: declarations of all sorts, for the bodies that are put behind it.
const head = `record P { x: int, s: text } record Q { b: bool }
map m: int -> P; map n: text -> int;
fn f(a: int) -> text { return str(a); } fn g() { } fn p(a: P, b: bool) -> P { return a; } fn q() -> Q { return Q{b: true}; }
on t(x: int, s: text) { } on u() { }
`

// in: a handler with these statements, behind head; it has a variable of each type.
func in(statements string) string {
	return head + "on e(i: int, w: text, c: bool, r: P, z: Q) { " + statements + " }"
}

// inFunc: likewise, in a function with this result.
func inFunc(result, statements string) string {
	return head + "fn e(i: int, w: text, c: bool, r: P, z: Q) -> " + result + " { " + statements + " }"
}

// marked: a source without its @, which no source has, and where it stood.
func marked(t *testing.T, s string) (string, int) {
	t.Helper()
	if strings.Count(s, "@") != 1 {
		t.Fatalf("%s: not one place", s)
	}
	return strings.Replace(s, "@", "", 1), strings.Index(s, "@")
}

func read(t *testing.T, source string) api.Tree {
	t.Helper()
	x, at, err := parse.Parse(source)
	if err != api.OK {
		t.Fatalf("%s: %d at %d", source, err, at)
	}
	return x
}

// wantFault: that a source is refused, where its @ stands, and nothing is told beside.
func wantFault(t *testing.T, s string, err api.Errno) {
	t.Helper()
	source, place := marked(t, s)
	wantTold(t, read(t, source), place, err)
}

func wantTold(t *testing.T, x api.Tree, place int, err api.Errno) {
	t.Helper()
	p, at, number := types.Check(x)
	if at != place || number != err {
		t.Errorf("%s: %d at %d, want %d at %d", shown(x), number, at, err, place)
	}
	if err != api.OK && !equal(p, api.Program{}) {
		t.Errorf("%s: a program beside an error: %+v", shown(x), p)
	}
}

// wantTaken: that a source isn't refused, and what is told of it may be.
func wantTaken(t *testing.T, source string) api.Program {
	t.Helper()
	p, at, err := types.Check(read(t, source))
	if err != api.OK || at != 0 {
		t.Errorf("%s: %d at %d", source, err, at)
	}
	if !value.Right(p) {
		t.Errorf("%s: not right: %+v", source, p)
	}
	return p
}

// wantProgram: that it is taken as this.
func wantProgram(t *testing.T, source string, want api.Program) {
	t.Helper()
	if p := wantTaken(t, source); !equal(p, want) {
		t.Errorf("%s: %+v, want %+v", source, p, want)
	}
}

// rows of sources, all with one error.
func wantFaults(t *testing.T, err api.Errno, wrap func(string) string, rows ...string) {
	t.Helper()
	for _, row := range rows {
		wantFault(t, wrap(row), err)
	}
}

func wantAllTaken(t *testing.T, wrap func(string) string, rows ...string) {
	t.Helper()
	for _, row := range rows {
		wantTaken(t, wrap(row))
	}
}

func asItIs(s string) string { return s }

// equal: nil and empty are one.
func equal(a, b api.Program) bool { return reflect.DeepEqual(full(a), full(b)) }

func copied[T any](list []T) []T { return append(make([]T, 0, len(list)), list...) }

// full: a copy, no list of which is nil.
func full(p api.Program) api.Program {
	p = api.Program{Records: copied(p.Records), Maps: copied(p.Maps), Funcs: copied(p.Funcs), Events: copied(p.Events)}
	for i := range p.Records {
		p.Records[i].Fields, p.Records[i].Types = copied(p.Records[i].Fields), copied(p.Records[i].Types)
	}
	for _, list := range [][]api.Sig{p.Funcs, p.Events} {
		for i := range list {
			list[i].Params = copied(list[i].Params)
		}
	}
	return p
}
