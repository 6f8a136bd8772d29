package emit_test

import (
	"math/rand"
	"slices"
	"strconv"
	"strings"
	"testing"

	"windlass/api"
)

// operators: how often each instruction of IAdd to INot, ILen, IStr is there.
func operators(c api.Code) map[int]int {
	told := map[int]int{}
	for _, f := range fns(c) {
		for _, o := range f.Ops {
			switch o.Code {
			case api.IAdd, api.ISub, api.IMul, api.IWAdd, api.IWSub, api.IWMul, api.IDiv, api.IMod, api.ICat, api.IEq, api.INe, api.ILt, api.ILe, api.IGt, api.IGe, api.INeg, api.INot, api.ILen, api.IStr:
				told[o.Code]++
			}
		}
	}
	return told
}

// hasMore: whether one has an operator more than the other; where functions may be laid in at the size that they are only one that isn't there at all counts.
func hasMore(one, other api.Code, passes int) bool {
	isLaid := passes&api.PassInline != 0 && passes&api.PassDead == 0
	for sign, times := range operators(one) {
		if n := operators(other)[sign]; n == 0 || n < times && !isLaid {
			return true
		}
	}
	return false
}

// places: statements in which an expression of this kind may stand at $, where a: int, s: text, b: bool are variables.
func places(kind string) []string {
	return map[string][]string{
		"int": {
			"let x = $; m[1] = x;", "a = $; m[1] = a;", "m[$] = 1;", "m[a] = $;", "p[$] = n(a);", "del m[$];", "after $ e(a, s, b);", "after 1 e($, s, b);", "do $;", "do g($, s, b);", "m[1] = same($);",
			"m[1] = m[$];", "r[1] = has m[$];", "m[1] = P{x: $, s: s}.x;", "m[1] = $ + a;", "m[1] = a - $;", "m[1] = a *% $ / a;", "emit str($ % a);", "if a == $ { emit s; } else { emit \"no\"; }", "while a < $ { emit s; break; }",
			"r[1] = b and $ < a;", "r[1] = $ != a or b;", "each k in m { m[k] = $; }", "l: while b { m[2] = $; break l; }", "if b { } else { m[1] = $; }", "return; m[1] = $;",
		},
		"text": {
			"let x = $; emit x;", "s = $; emit s;", "w[$] = s;", "w[s] = $;", "del w[$];", "after 1 e(a, $, b);", "emit $;", "do $;", "emit ask q($);", "do g(a, $, b);", "emit w[$];", "r[1] = has w[$];", "emit P{s: $, x: a}.s;",
			"emit s & $;", "emit $ & s;", "m[1] = len($ & s);", "if s == $ { emit s; }", "while $ != s { break; }", "r[1] = not (s < $);", "each k in w { w[k] = $; }", "if b { emit $; } else if not b { emit s; }",
		},
		"bool": {
			"let x = $; r[1] = x;", "b = $; r[1] = b;", "r[a] = $;", "if $ { emit s; } else { emit \"no\"; }", "if b { } else if $ { emit s; }", "while $ { emit s; break; }", "after 1 e(a, s, $);", "do $;", "do g(a, s, $);", "r[1] = b == $;", "r[1] = $ != b;",
			"r[1] = $ and b;", "r[1] = b and $;", "r[1] = b or $;", "r[1] = $ or b;", "r[1] = not (b == $);", "r[1] = not (b and $);", "if b or $ { emit s; }", "while $ and b { break; }", "each k in m { if $ { emit s; } }",
		},
	}[kind]
}

// around: sources in which statements stand in a handler, in a function that may be laid in, in one that calls itself, and in one with much about it.
func around(statements string) []string {
	const declared = "record P { x: int, s: text } map m: int -> int; map w: text -> text; map p: int -> P; map r: int -> bool; fn g(a: int, s: text, b: bool) { m[9] = a; w[\"g\"] = s; r[9] = b; } fn same(a: int) -> int { return a; } fn n(a: int) -> P { return P{x: a, s: \"n\"}; } "
	const params = "(a: int, s: text, b: bool) "
	return []string{
		declared + "on e" + params + "{ " + statements + " }",
		declared + "fn f" + params + "{ " + statements + " } on e" + params + "{ do f(a, s, b); }",
		declared + "fn f" + params + "{ if b { b = false; do f(a, s, b); } " + statements + " } on e" + params + "{ do f(a, s, b); do f(1, \"\", b); }",
		declared + "on other() { } on e" + params + "{ let c = m[a]; let d = m[a]; m[a] = c; if true { emit s; } " + statements + " }",
	}
}

// returning: likewise for an expression that a function returns.
func returning(kind string) []string {
	return []string{
		"fn f() -> " + kind + " { return $; } on e(a: int, s: text, b: bool) { let x = f(); do x; }",
		"fn f(b: bool) -> " + kind + " { if b { return $; } else { let x = $; return x; } } on e(a: int, s: text, b: bool) { do f(b); }",
	}
}

// fewOccasions: for the maps that a program has, none, some and many entries.
func fewOccasions(p api.Program) []occasion {
	var list []occasion
	for i, n := range []int64{0, 1, -1, 5} {
		o := occasion{state([]int{0, 2, 24, 3}[i]), api.Event{Name: "e", Args: []api.Value{numbered(n), texted(strings.Repeat("x", i)), truth(i%2 == 1)}}, []string{"one"}, i}
		o.state.Maps = o.state.Maps[:len(p.Maps)]
		list = append(list, o)
	}
	return list
}

// wantConstant: that a source with the expression for $ has, with PassFold, no more operators than with what it comes to; with PassDead the same instructions; and does the same.
func wantConstant(t *testing.T, source string, e made) {
	t.Helper()
	mine, others := strings.ReplaceAll(source, "$", e.source), strings.ReplaceAll(source, "$", literal(e.value).source)
	base := codeOf(t, others, 0)
	list := fewOccasions(base.Program)
	want := outcomes(t, base, list)
	for passes := range subsets() {
		c := codeOf(t, mine, passes)
		for i, got := range outcomes(t, c, list) {
			if got != want[i] {
				t.Fatalf("P18.2: passes %d: %s\nwant %s\n%s", passes, got, want[i], mine)
			}
		}
		if passes&api.PassFold == 0 {
			continue
		}
		other := codeOf(t, others, passes)
		if hasMore(c, other, passes) {
			t.Fatalf("P18.2: passes %d: operators are left of %s\n%s\nwant %s\n%s", passes, e.source, rows(c), rows(other), mine)
		}
		if passes&api.PassDead != 0 && rows(c) != rows(other) {
			t.Fatalf("P18.2: passes %d: it isn't the one constant: %s\n%s\nwant %s\n%s", passes, e.source, rows(c), rows(other), mine)
		}
	}
}

// P18.2: with PassFold an expression of literals and operators is one constant, at every place where one may stand.
func TestLiterals(t *testing.T) {
	t.Parallel()
	k := composer{rand.New(rand.NewSource(188)), map[string]int{}}
	for _, kind := range kinds {
		for _, statements := range places(kind) {
			for _, source := range around(statements) {
				wantConstant(t, source, k.some(kind, 1+k.Intn(4)))
			}
		}
		for _, source := range returning(kind) {
			wantConstant(t, source, k.some(kind, 1+k.Intn(4)))
		}
	}
	if rare := k.rare(2); len(rare) > 0 {
		t.Errorf("taken too seldom: %v", rare)
	}
}

// edges: literals of a kind on which operators do something of their own.
func edges(kind string) []made {
	var list []made
	switch kind {
	case "int":
		for _, n := range []int64{0, 1, -1, 2, -7, 1<<63 - 1, -1 << 63, 1 << 62, 3037000500} {
			list = append(list, literal(numbered(n)))
		}
	case "text":
		for _, s := range []string{"", "a", "ab", "\xff", strings.Repeat("x", 32), strings.Repeat("x", 33), strings.Repeat("y", 64)} {
			list = append(list, literal(texted(s)))
		}
	default:
		list = append(list, literal(truth(false)), literal(truth(true)))
	}
	return list
}

// P18.2: each operator on each edge: one constant, or, where it traps, the operator still.
func TestEachOperator(t *testing.T) {
	t.Parallel()
	safe, trapping := 0, 0
	for _, kind := range kinds {
		signs := map[string][]string{"int": {"+", "-", "*", "+%", "-%", "*%", "/", "%", "neg", "str", "==", "!=", "<", "<=", ">", ">="}, "text": {"&", "len", "==", "!=", "<", "<=", ">", ">="}, "bool": {"not", "==", "!="}}[kind]
		for _, sign := range signs {
			for _, a := range edges(kind) {
				for _, b := range edges(kind) {
					e, isSafe := joined(sign, a, b)
					if isSafe {
						safe++
						wantOne(t, e)
					} else {
						trapping++
						wantTrap(t, e, sign)
					}
					if isOfOne(sign) {
						break
					}
				}
			}
		}
	}
	if safe < 500 || trapping < 80 {
		t.Errorf("%d safe, %d trapping", safe, trapping)
	}
}

// isOfOne: whether an operator has one argument.
func isOfOne(sign string) bool { return slices.Contains([]string{"neg", "not", "len", "str"}, sign) }

const results = "map i: int -> int; map t: int -> text; map f: int -> bool; "

// resultOf: a handler that puts an expression into the map of its kind.
func resultOf(e made) string {
	return results + "on e() { " + map[int]string{api.Int: "i", api.Text: "t", api.Bool: "f"}[e.value.Kind] + "[0] = " + e.source + "; }"
}

// wantOne: that with PassFold no operator is left of an expression, with PassDead but the one constant; and that the constant is its value.
func wantOne(t *testing.T, e made) {
	t.Helper()
	want := blank(api.Program{Maps: make([]api.MapType, 3)})
	at := map[int]int{api.Int: 0, api.Text: 1, api.Bool: 2}[e.value.Kind]
	want.Maps[at] = []api.Entry{{Key: numbered(0), Value: e.value}}
	for passes := range subsets() {
		c := codeOf(t, resultOf(e), passes)
		out := run(t, c, occasion{state: blank(c.Program), event: api.Event{Name: "e"}})
		if out.End != api.Done || shown(out.State) != shown(want) {
			t.Fatalf("P18.2: %d: %s: %s", passes, e.source, shown(out))
		}
		if passes&api.PassFold != 0 && len(operators(c)) != 0 {
			t.Fatalf("P18.2: %d: %s: %s", passes, e.source, rows(c))
		}
		if row := "charge 0 " + constant(e.value) + " put ret"; passes&api.PassFold != 0 && passes&api.PassDead != 0 && rows(c) != row {
			t.Fatalf("P18.2: %d: %s: %s, want %s", passes, e.source, rows(c), row)
		}
	}
}

// constant: as a row has it.
func constant(v api.Value) string {
	if v.Kind == api.Text {
		return strconv.Quote(v.Text)
	}
	return literal(v).source
}

// wantTrap: that what traps is there still, once, and traps.
func wantTrap(t *testing.T, e made, sign string) {
	t.Helper()
	trap := api.TrapOver
	switch {
	case sign == "&":
		trap = api.TrapLong
	case strings.HasSuffix(e.source, " 0)") && (sign == "/" || sign == "%"):
		trap = api.TrapZero
	}
	for passes := range subsets() {
		c := codeOf(t, resultOf(e), passes)
		out := run(t, c, occasion{state: blank(c.Program), event: api.Event{Name: "e"}})
		if out.End != api.Trapped || out.Trap != trap || out.Fuel != 1 || len(operators(c)) != 1 {
			t.Fatalf("P18.2: %d: %s: %s\n%s", passes, e.source, shown(out), rows(c))
		}
	}
}

// P18.2: of an expression that traps, or has something else in it, the parts of literals alone are one constant each.
func TestParts(t *testing.T) {
	for _, w := range []struct{ source, want string }{
		{"(1 + 2) / (3 - 3)", "3 0 div"}, {"1 + 2 + a", "3 add"}, {"a + (1 + 2)", "3 add"}, {"a + 1 + 2", "1 add 2 add"}, {"len(\"ab\" & \"c\") * (a - -(4))", "3 -4 sub mul"}, {"-(a - 2 * 3)", "6 sub neg"},
		{"9223372036854775807 + (2 - 1)", "9223372036854775807 1 add"}, {"len(str(1) & str(a))", "\"1\" str cat len"}, {"2 * 3 % (1 -% 1)", "6 0 mod"}, {"m[1 + 1] + m[2 * 2]", "2 get 4 get add"}, {"-9223372036854775808 % -1 + a", "0 add"},
	} {
		for _, passes := range []int{api.PassFold | api.PassDead, allPasses} {
			want := "charge " + w.want + " 0 put ret"
			c := codeOf(t, "map m: int -> int; on e(a: int) { let x = "+w.source+"; m[0] = x; }", passes)
			if got := strings.ReplaceAll(rows(c), " move", ""); got != want {
				t.Errorf("P18.2: %d: %s: %s, want %s", passes, w.source, got, want)
			}
		}
	}
}
