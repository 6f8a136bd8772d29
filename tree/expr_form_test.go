package tree_test

import (
	"math"
	"regexp"
	"slices"
	"strings"
	"testing"

	"windlass/api"
	"windlass/tree"
)

var (
	smallName = regexp.MustCompile(`^[a-z_][A-Za-z0-9_]{0,19}$`)
	greatName = regexp.MustCompile(`^[A-Z][A-Za-z0-9_]{0,19}$`)
	allWords  = strings.Split("after, and, ask, bool, break, continue, del, do, each, else, emit, false, fn, has, if, in, int, len, let, map, not, on, or, record, return, str, text, true, while", ", ")
)

func small(s string) bool { return smallName.MatchString(s) && !slices.Contains(allWords, s) }

func great(s string) bool { return greatName.MatchString(s) }

func noText(s string) bool { return s == "" }

func smallOrNone(s string) bool { return s == "" || small(s) }

func noInt(n int64) bool { return n == 0 }

func anyInt(int64) bool { return true }

func truthInt(n int64) bool { return n == 0 || n == 1 }

// exprRule: what the chapter says of a kind, field by field.
type exprRule struct {
	ops   [2]int
	int   func(int64) bool
	bytes int // of Text
	name  func(string) bool
	names [2]int
	args  [2]int
}

var exprRules = map[int]exprRule{
	api.EInt:    {[2]int{}, anyInt, 0, noText, [2]int{}, [2]int{}},
	api.EText:   {[2]int{}, noInt, 64, noText, [2]int{}, [2]int{}},
	api.EBool:   {[2]int{}, truthInt, 0, noText, [2]int{}, [2]int{}},
	api.EVar:    {[2]int{}, noInt, 0, small, [2]int{}, [2]int{}},
	api.EUnary:  {[2]int{18, 21}, noInt, 0, noText, [2]int{}, [2]int{1, 1}},
	api.EBinary: {[2]int{1, 17}, noInt, 0, noText, [2]int{}, [2]int{2, 2}},
	api.EField:  {[2]int{}, noInt, 0, small, [2]int{}, [2]int{1, 1}},
	api.EMake:   {[2]int{}, noInt, 0, great, [2]int{1, 12}, [2]int{1, 12}},
	api.EGet:    {[2]int{}, noInt, 0, small, [2]int{}, [2]int{1, 1}},
	api.EHas:    {[2]int{}, noInt, 0, small, [2]int{}, [2]int{1, 1}},
	api.ECall:   {[2]int{}, noInt, 0, small, [2]int{}, [2]int{0, 12}},
	api.EAsk:    {[2]int{}, noInt, 0, small, [2]int{}, [2]int{1, 1}},
}

func among(n int, bounds [2]int) bool { return bounds[0] <= n && n <= bounds[1] }

// exprMayBe: P6.1, by the rules.
func exprMayBe(e api.Expr) bool {
	rule, known := exprRules[e.Kind]
	if !known || !among(e.Op, rule.ops) || !rule.int(e.Int) || len(e.Text) > rule.bytes || !rule.name(e.Name) || !among(len(e.Names), rule.names) || !among(len(e.Args), rule.args) {
		return false
	}
	if e.Kind == api.EMake && len(e.Names) != len(e.Args) {
		return false
	}
	return !slices.ContainsFunc(e.Names, func(s string) bool { return !small(s) }) && !slices.ContainsFunc(e.Args, func(arg api.Expr) bool { return !exprMayBe(arg) })
}

func someArgs(count int) []api.Expr {
	return slices.Repeat([]api.Expr{integer(-7)}, count)
}

// someNames: some small, some great, words, names that are too long, what is no name.
func someNames() []string {
	return []string{"", "a", "A", "if", "a b", strings.Repeat("n", 20), strings.Repeat("n", 21), strings.Repeat("N", 20), strings.Repeat("N", 21)}
}

// P6.1: kinds, operators, numbers, texts, names, lists of all sorts with one another.
func TestExprMayBe(t *testing.T) {
	names := [][]string{nil, {}, {"a"}, {"A"}, {""}, {"a", "b"}, {"a", "a"}, {"a", "in"}, slices.Repeat([]string{"n"}, 12), slices.Repeat([]string{"n"}, 13)}
	args := [][]api.Expr{nil, {}, someArgs(1), someArgs(2), someArgs(3), someArgs(12), someArgs(13), {{}}, {integer(1), {Kind: 13}}}
	right := 0
	for _, kind := range []int{math.MinInt, -1, 0, 1, 2, 3, 4, 5, 6, 7, 8, 9, 10, 11, 12, 13, 14, math.MaxInt} {
		for _, op := range []int{-1, 0, 1, 17, 18, 21, 22} {
			for _, n := range []int64{0, 1, 2, -1, math.MinInt64} {
				for _, s := range []string{"", "a", strings.Repeat("z", 64), strings.Repeat("z", 65)} {
					for _, name := range someNames()[:7] {
						for _, fields := range names {
							for _, list := range args {
								e := api.Expr{Kind: kind, Op: op, Int: n, Text: s, Name: name, Names: fields, Args: list}
								want := exprMayBe(e)
								if _, err := tree.Expr(e); (err == api.OK) != want {
									t.Errorf("%+v: %d", e, err)
								}
								if want {
									right++
								}
							}
						}
					}
				}
			}
		}
	}
	if right < 100 {
		t.Errorf("only %d may be", right)
	}
}

// P6.1: the samples may be; each kind but theirs may not be.
func TestExprKinds(t *testing.T) {
	for _, e := range sampleExprs() {
		wantExpr(t, e, true)
		for kind := -2; kind < 16; kind++ {
			changed := e
			changed.Kind = kind
			wantExpr(t, changed, exprMayBe(changed))
		}
		for _, kind := range []int{math.MinInt, -1, 0, 13, 14, 1 << 32, 1<<32 + e.Kind, math.MaxInt} {
			changed := e
			changed.Kind = kind
			wantExpr(t, changed, false)
		}
	}
}

// P6.1: each field that must be zero, set by itself.
func TestExprZeros(t *testing.T) {
	for kind, rule := range exprRules {
		for _, e := range sampleExprs() {
			if e.Kind != kind {
				continue
			}
			for field, changed := range map[string]api.Expr{
				"Op": changedExpr(e, func(e *api.Expr) { e.Op = api.OAdd }), "Op below 0": changedExpr(e, func(e *api.Expr) { e.Op = -1 }),
				"Int": changedExpr(e, func(e *api.Expr) { e.Int = 1 }), "Int below 0": changedExpr(e, func(e *api.Expr) { e.Int = -1 }),
				"Text": changedExpr(e, func(e *api.Expr) { e.Text = "x" }), "Name": changedExpr(e, func(e *api.Expr) { e.Name = "x" }), "great Name": changedExpr(e, func(e *api.Expr) { e.Name = "X" }),
				"Names": changedExpr(e, func(e *api.Expr) { e.Names = []string{"x"} }), "Args": changedExpr(e, func(e *api.Expr) { e.Args = someArgs(1) }),
			} {
				if exprMayBe(changed) {
					continue
				}
				if _, err := tree.Expr(changed); err != api.ErrTreeForm {
					t.Errorf("%+v, %s set: %d", e, field, err)
				}
			}
			wantExpr(t, changedExpr(e, func(e *api.Expr) { e.Text = strings.Repeat("z", rule.bytes+1) }), false)
		}
	}
}

func changedExpr(e api.Expr, change func(*api.Expr)) api.Expr {
	change(&e)
	return e
}

// P6.1: numbers, truths, texts, operators at and past their edges.
func TestExprEdges(t *testing.T) {
	for _, n := range []int64{0, 1, -1, 2, 63, 1 << 40, math.MaxInt64, math.MinInt64} {
		wantExpr(t, integer(n), true)
		wantExpr(t, truth(n), n == 0 || n == 1)
	}
	for _, letter := range []string{"z", `"`, "\x00", "\xff"} {
		for count := range 70 {
			wantExpr(t, text(strings.Repeat(letter, count)), count <= 64)
		}
	}
	wantExpr(t, text(strings.Repeat("é", 32)), true)
	wantExpr(t, text(strings.Repeat("é", 33)), false)
	wantExpr(t, text(strings.Repeat("z", 1<<20)), false)
	for op := -2; op < 25; op++ {
		for count := range 5 {
			wantExpr(t, unary(op, someArgs(count)...), 18 <= op && op <= 21 && count == 1)
			wantExpr(t, binary(op, someArgs(count)...), 1 <= op && op <= 17 && count == 2)
		}
	}
	for _, op := range []int{math.MinInt, 1<<32 + 1, 1<<32 + 18, math.MaxInt} {
		wantExpr(t, unary(op, someArgs(1)...), false)
		wantExpr(t, binary(op, someArgs(2)...), false)
	}
}

// P6.1: names of every kind that has one.
func TestExprNames(t *testing.T) {
	names := append(someNames(), "_", "__", "_9", "_A", "z", "Z", "aZ9_", "Ab", "9", "9a", "a-b", "a.b", " a", "a ", "a\n", "#a", "é", "aé", "\xff", "a\x00", `"a"`, "ifs", "If", "IF", "Int", "int2", "none")
	for _, name := range append(names, allWords...) {
		wantExpr(t, variable(name), small(name))
		wantExpr(t, named(api.EField, name, integer(1)), small(name))
		wantExpr(t, named(api.EGet, name, integer(1)), small(name))
		wantExpr(t, named(api.EHas, name, integer(1)), small(name))
		wantExpr(t, named(api.ECall, name), small(name))
		wantExpr(t, named(api.ECall, name, integer(1)), small(name))
		wantExpr(t, named(api.EAsk, name, integer(1)), small(name))
		wantExpr(t, record(name, []string{"x"}, integer(1)), great(name))
		for i := range 3 {
			fields := []string{"x", "y", "z"}
			fields[i] = name
			wantExpr(t, record("P", fields, someArgs(3)...), small(name))
		}
	}
}

// P6.1: how many arguments, how many names.
func TestExprCounts(t *testing.T) {
	for count := range 16 {
		for _, kind := range []int{api.EField, api.EGet, api.EHas, api.EAsk} {
			wantExpr(t, named(kind, "a", someArgs(count)...), count == 1)
		}
		wantExpr(t, named(api.ECall, "a", someArgs(count)...), count <= 12)
		for other := range 16 {
			wantExpr(t, record("P", slices.Repeat([]string{"n"}, other), someArgs(count)...), count == other && 1 <= count && count <= 12)
		}
		for _, e := range []api.Expr{integer(1), text("a"), truth(1), variable("a")} {
			e.Args = someArgs(count)
			wantExpr(t, e, count == 0)
			e.Args, e.Names = nil, slices.Repeat([]string{"n"}, count)
			wantExpr(t, e, count == 0)
		}
	}
	for _, count := range []int{13, 255, 256, 257, 1 << 16} {
		wantExpr(t, named(api.ECall, "a", someArgs(count)...), false)
		wantExpr(t, record("P", slices.Repeat([]string{"n"}, count), someArgs(count)...), false)
	}
}

// P6.1: a fault in an argument of an argument, in each of them; At isn't looked at.
func TestExprWithin(t *testing.T) {
	for _, outer := range sampleExprs() {
		for i := range outer.Args {
			for _, inner := range sampleExprs() {
				e := replaced(outer, i, inner)
				wantExpr(t, e, true)
				for j := range inner.Args {
					wantExpr(t, replaced(outer, i, replaced(inner, j, integer(-3))), true)
					for _, wrong := range []api.Expr{{}, {Kind: 13}, truth(2), variable("X"), variable(""), unary(api.OAdd, integer(1)), named(api.EGet, "m")} {
						wantExpr(t, replaced(outer, i, replaced(inner, j, wrong)), false)
					}
				}
			}
		}
	}
	for _, at := range []int{-1, 1, 4097, math.MinInt, math.MaxInt} {
		for _, e := range sampleExprs() {
			e.At = at
			wantExpr(t, e, true)
			wantExpr(t, unary(api.OLen, e), true)
		}
		wantExpr(t, api.Expr{At: at}, false)
	}
}

// replaced: with another argument i.
func replaced(e api.Expr, i int, arg api.Expr) api.Expr {
	e.Args = slices.Clone(e.Args)
	e.Args[i] = arg
	return e
}
