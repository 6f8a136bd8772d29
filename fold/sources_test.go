package fold_test

import (
	"fmt"
	"math/rand"
	"slices"
	"strings"
	"testing"

	"windlass/api"
	"windlass/code"
	"windlass/lower"
	"windlass/parse"
)

// lowered: the unit of a source.
func lowered(t *testing.T, source string) api.Unit {
	t.Helper()
	x, at, err := parse.Parse(source)
	if err != api.OK {
		t.Fatalf("%s: %d at %d", source, err, at)
	}
	u, at, err := lower.Lower(x)
	if err != api.OK {
		t.Fatalf("%s: %d at %d", source, err, at)
	}
	return u
}

// constantAt: what is known of the register that the last instruction of this sort uses, field A or B.
func constantAt(t *testing.T, u api.Unit, sort int) api.Value {
	t.Helper()
	for _, g := range graphs(u) {
		for _, b := range g.Blocks {
			for i := len(b.Ops) - 1; i >= 0; i-- {
				if o := b.Ops[i]; o.Code == sort {
					used, _ := code.Uses(u.Program, o)
					v, _ := lastGiven(u, b.Ops[:i], used[len(used)-1])
					return v
				}
			}
		}
	}
	return api.Value{}
}

// leftOperators: instructions of IAdd to IStr that are still there.
func leftOperators(u api.Unit) []string {
	var list []string
	for _, g := range graphs(u) {
		for _, b := range g.Blocks {
			for _, o := range b.Ops {
				if isReckoned(o) {
					list = append(list, code.Line(o))
				}
			}
		}
	}
	return list
}

// P14.3: expressions of literals alone, with each operator, become one constant each.
func TestLiterals(t *testing.T) {
	for _, w := range []struct {
		kind, expr string
		want       api.Value
	}{
		{"int", "1 + 2 * 3", numbered(7)}, {"int", "(1 + 2) * 3", numbered(9)}, {"int", "9 - 4 - 3", numbered(2)}, {"int", "9 - (4 - 3)", numbered(8)},
		{"int", "7 / 2", numbered(3)}, {"int", "-7 / 2", numbered(-3)}, {"int", "-7 % 4", numbered(-3)}, {"int", "7 % -4", numbered(3)},
		{"int", "- (3 - 5)", numbered(2)}, {"int", "- - - 4", numbered(-4)}, {"int", "9223372036854775807 +% 1", numbered(-1 << 63)},
		{"int", "-9223372036854775808 -% 1", numbered(1<<63 - 1)}, {"int", "4611686018427387904 *% 2", numbered(-1 << 63)}, {"int", "-9223372036854775808 % -1", numbered(0)},
		{"int", "-9223372036854775807 - 1", numbered(-1 << 63)}, {"int", "len(\"\")", numbered(0)}, {"int", "len(\"ab\" & str(100)) + 1", numbered(6)},
		{"text", "str(-5)", texted("-5")}, {"text", "str(2 * 3) & \"a\" & str(len(\"b\"))", texted("6a1")}, {"text", "\"a\" & \"\"", texted("a")}, {"text", "\"\" & \"\"", texted("")},
		{"text", "\"" + strings.Repeat("a", 32) + "\" & \"" + strings.Repeat("b", 32) + "\"", texted(strings.Repeat("a", 32) + strings.Repeat("b", 32))},
		{"bool", "1 + 1 == 2", truth(true)}, {"bool", "1 != 1", truth(false)}, {"bool", "\"a\" < \"b\"", truth(true)}, {"bool", "\"a\" >= \"ab\"", truth(false)},
		{"bool", "2 <= 1 + 1", truth(true)}, {"bool", "3 > 4 - 2", truth(true)}, {"bool", "not (1 == 2)", truth(true)}, {"bool", "not not true", truth(true)},
		{"bool", "(1 == 1) == (2 < 1)", truth(false)}, {"bool", "true != false", truth(true)}, {"bool", "\"a\" & \"b\" == \"ab\"", truth(true)},
	} {
		zero := map[string]string{"int": "0", "text": "\"\"", "bool": "false"}[w.kind]
		for _, form := range []string{
			"map m: int -> %[1]s; on e(a: int) { m[a] = %[2]s; }", "map m: int -> %[1]s; on e(a: int) { while has m[a] { m[a] = %[2]s; } }",
			"map m: int -> %[1]s; on e(a: int) { if has m[a] { m[a] = %[2]s; } else { del m[a]; } }", "map m: int -> %[1]s; fn f(a: int) { m[a] = %[2]s; } on e(a: int) { do f(a); }",
			"map m: int -> %[1]s; on e(a: int) { let x = %[2]s; m[a] = x; }", "map m: int -> %[1]s; on e(a: int) { let x = %[3]s; x = %[2]s; m[a] = x; }",
		} {
			u := lowered(t, fmt.Sprintf(form, w.kind, w.expr, zero))
			v := passed(t, u)
			if got := constantAt(t, v, api.IPut); shown(got) != shown(w.want) {
				t.Errorf("P14.3: %s: %s, want %s", w.expr, shown(got), shown(w.want))
			}
			if left := leftOperators(v); len(left) > 0 {
				t.Errorf("P14.3: %s: there is still %q", w.expr, left)
			}
		}
	}
}

// P14.3: wherever an expression of literals stands.
func TestLiteralsEverywhere(t *testing.T) {
	for _, w := range []struct {
		statement string
		left      int // operators that stay
	}{
		{"emit \"a\" & str(1 + 2);", 0}, {"m[1 + 1] = 2 * 2;", 0}, {"del m[3 - 1];", 0}, {"if 1 < 2 { emit \"x\"; }", 0}, {"while not (1 == 1) { emit \"x\"; }", 0},
		{"after 1 + 1 v(2 * 3, \"a\" & \"b\");", 0}, {"do f(1 + 2, \"a\" & \"b\");", 0}, {"do 1 + 2;", 0}, {"w[\"a\"] = P{s: \"a\" & \"b\", x: 3 * 4};", 0}, {"return; ", 0},
		{"emit ask p(\"a\" & \"b\");", 0}, {"m[1] = w[\"a\" & \"b\"].x;", 0}, {"if has m[1 + 1] { emit \"x\"; }", 0}, {"l: while 1 + 1 < 3 { break l; }", 0},
		{"m[0] = a + 2 * 3;", 1}, {"m[0] = a + 2 + 3;", 2}, {"m[a] = 4 - 1 + a;", 1}, {"m[0] = 1 / 0;", 1}, {"m[0] = 1 / (2 - 2) + (3 + 4);", 2}, {"m[0] = 9223372036854775807 + 1;", 1},
		{"m[0] = - (-9223372036854775808);", 1}, {"emit str(a) & str(4 - 3);", 2}, {"m[0] = 1 % 0 * (5 * 5);", 2},
	} {
		source := "record P { x: int, s: text } map m: int -> int; map w: text -> P; fn f(a: int, b: text) -> int { return 3 * 3; } on v(a: int, b: text) { } on e(a: int) { " + w.statement + " }"
		u := lowered(t, source)
		v := passed(t, u)
		if left := leftOperators(v); len(left) != w.left {
			t.Errorf("P14.3: %s: there is still %q", w.statement, left)
		}
		for _, n := range []int64{0, 1, -1, 1<<63 - 1} {
			for _, answers := range [][]string{nil, {"x"}} {
				wantAlike(t, u, v, run{api.State{Maps: make([][]api.Entry, 2)}, api.Event{Name: "e", Args: []api.Value{numbered(n)}}, answers, 0})
			}
		}
	}
}

// P14.3: sources as long as they may be, whose expressions have more constants on their way, and more literals, than there may be in all.
func TestLongSources(t *testing.T) {
	sums := "map m: int -> int; on e() { m[0] = 9" + strings.Repeat("+9", 980) + "; } on f() { m[0] = 7" + strings.Repeat("+7", 980) + "; }"
	var low, high []string
	for i := range 500 {
		low, high = append(low, fmt.Sprint(i)), append(high, fmt.Sprint(500+i))
	}
	literals := "map m: int -> int; on e() { m[0] = " + strings.Join(low, "+") + "; } on f() { m[0] = " + strings.Join(high, "+") + "; }"
	var rows []string
	for i := range 26 {
		rows = append(rows, fmt.Sprintf("m[0]=\"%c\"%s;", 'a'+i, strings.Repeat("&\"z\"", 34)))
	}
	joins := "map m: int -> text; on e() { " + strings.Join(rows, "") + " } on f() { m[0] = \"f\" & \"g\"; }"
	for _, w := range []struct {
		what, source string
		want         []api.Value
	}{
		{"sums", sums, []api.Value{numbered(9 * 981), numbered(7 * 981)}},
		{"literals", literals, []api.Value{numbered(499 * 250), numbered(1499 * 250)}},
		{"joins", joins, []api.Value{texted("z" + strings.Repeat("z", 34)), texted("fg")}},
	} {
		u := lowered(t, w.source)
		v := passed(t, u)
		if left := leftOperators(v); len(left) > 0 {
			t.Errorf("P14.3: %s: %d are left", w.what, len(left))
		}
		for i, name := range []string{"e", "f"} {
			o := wantAlike(t, u, v, run{api.State{Maps: make([][]api.Entry, 1)}, api.Event{Name: name}, nil, 0})
			if shown(o.State.Maps[0][0].Value) != shown(w.want[i]) {
				t.Errorf("%s: %s", w.what, shown(o))
			}
		}
	}
}

// scribe writes sources by chance.
type scribe struct {
	*rand.Rand
	isLiteral bool // there are no variables, maps or calls in expressions
	isCalm    bool // few expressions trap
}

func (k scribe) pick(texts ...string) string { return texts[k.Intn(len(texts))] }

func (k scribe) expr(kind string, deep int) string {
	if deep < 1 || k.Intn(6) == 0 {
		return k.leaf(kind)
	}
	one := func(kind string) string { return k.expr(kind, deep-1) }
	switch kind {
	case "int":
		if k.Intn(6) == 0 {
			return k.pick("(- "+one("int")+")", "len("+one("text")+")")
		}
		if k.isCalm && k.Intn(20) > 0 {
			return "(" + one("int") + k.pick(" + ", " - ", " +% ", " -% ", " *% ") + one("int") + ")"
		}
		return "(" + one("int") + k.pick(" + ", " - ", " * ", " +% ", " -% ", " *% ", " / ", " % ") + one("int") + ")"
	case "text":
		if k.isCalm || k.Intn(2) == 0 {
			return "str(" + one("int") + ")"
		}
		return "(" + one("text") + " & " + one("text") + ")"
	}
	if k.Intn(4) == 0 {
		return "(not " + one("bool") + ")"
	}
	asked := k.pick("int", "text", "bool")
	if asked == "bool" {
		return "(" + one("bool") + k.pick(" == ", " != ") + one("bool") + ")"
	}
	return "(" + one(asked) + k.pick(" == ", " != ", " < ", " <= ", " > ", " >= ") + one(asked) + ")"
}

// leaf: a literal, or something that isn't known.
func (k scribe) leaf(kind string) string {
	literals := map[string][]string{
		"int":  {"0", "1", "2", "-1", "3", "10", "9223372036854775807", "(-9223372036854775808)", fmt.Sprint(k.Intn(100))},
		"text": {`""`, `"a"`, `"b"`, `"ab"`, `"` + strings.Repeat("c", k.Intn(40)) + `"`},
		"bool": {"true", "false"},
	}[kind]
	if k.isCalm && kind == "int" {
		literals = literals[:5]
	}
	if k.isLiteral || k.Intn(3) > 0 {
		return k.pick(literals...)
	}
	return k.pick(map[string][]string{
		"int": {"a", "x", "m[a]", "m[2]", "f(a)", "f(3)", "len(s)"}, "text": {"s", "y", "w[s]", "g(\"a\")", "ask p(\"q\")", "w[\"\"]"}, "bool": {"b", "z", "has m[1]", "has w[s]"},
	}[kind]...)
}

func (k scribe) statement(deep int) string {
	switch n := k.Intn(16); {
	case n < 3:
		return "emit " + k.expr("text", 3) + ";"
	case n < 5:
		return "m[" + k.expr("int", 2) + "] = " + k.expr("int", 3) + ";"
	case n < 6:
		return "w[" + k.expr("text", 2) + "] = " + k.expr("text", 2) + ";"
	case n < 7:
		return "x = " + k.expr("int", 3) + ";"
	case n < 8:
		return "y = " + k.expr("text", 2) + ";"
	case n < 9:
		return "z = " + k.expr("bool", 3) + ";"
	case n < 10:
		return "after " + k.pick("1", "2 * 3", "5", k.expr("int", 1)) + " e(" + k.expr("int", 2) + ", " + k.expr("text", 1) + ", " + k.expr("bool", 2) + ");"
	case n < 11:
		return "do " + k.expr(k.pick("int", "text", "bool"), 2) + ";"
	case n < 12:
		return "del m[" + k.expr("int", 1) + "];"
	case deep < 1:
		return ""
	case n < 14:
		return "if " + k.expr("bool", 3) + " { " + k.statement(deep-1) + " } else { " + k.statement(deep-1) + " }"
	case n < 15:
		return "while x < " + k.expr("int", 1) + " { x = x + 1; " + k.statement(deep-1) + " }"
	}
	return fmt.Sprintf("each k%d in m { m[k%d] = x; %s }", deep, deep, k.statement(deep-1))
}

func (k scribe) source() string {
	var body []string
	for range 3 + k.Intn(10) {
		body = append(body, k.statement(2))
	}
	return "map m: int -> int; map w: text -> text; fn f(i: int) -> int { return i * 2 + (1 + 1); } fn g(i: text) -> text { emit i; return i & (\"x\" & str(2 - 1)); } " +
		"on e(a: int, s: text, b: bool) { let x = 1 - 1; let y = \"\"; let z = not false; " + strings.Join(body, " ") + " emit y & str(x); if z { emit \"z\"; } }"
}

// P14.1, P14.2: sources by chance do the same.
func TestSourcesByChance(t *testing.T) {
	k := scribe{Rand: rand.New(rand.NewSource(141))}
	var s seen
	for range 300 {
		k.isCalm = k.Intn(3) > 0
		source := k.source()
		if len(source) > api.MaxSource {
			continue
		}
		u := lowered(t, source)
		v := passed(t, u)
		c, folded := codeOf(t, u), codeOf(t, v)
		s.folds += changes(u, v)
		for _, r := range someRuns() {
			r.state.Maps = r.state.Maps[:2]
			s.add(wantCodesAlike(t, c, folded, u, v, r))
		}
		if t.Failed() {
			t.Fatal(source)
		}
	}
	s.wantEnough(t, []int{api.TrapNone, api.TrapOver, api.TrapZero, api.TrapLong, api.TrapFull, api.TrapDelay})
}

// P14.3: expressions of literals by chance: what doesn't trap becomes one constant.
func TestLiteralsByChance(t *testing.T) {
	k := scribe{Rand: rand.New(rand.NewSource(142)), isLiteral: true}
	ends := map[int]int{}
	for range 2500 {
		expr := k.expr("text", 4)
		u := lowered(t, "on e() { emit "+expr+"; }")
		v := passed(t, u)
		o := wantAlike(t, u, v, run{api.State{}, api.Event{Name: "e"}, nil, 0})
		ends[o.End]++
		left := leftOperators(v)
		if o.End != api.Done {
			if len(left) == 0 {
				t.Errorf("P14.1: %s traps, but nothing is left", expr)
			}
			continue
		}
		if got := constantAt(t, v, api.IEmit); len(left) > 0 || !slices.Equal(o.Emits, []string{got.Text}) || got.Kind != api.Text {
			t.Errorf("P14.3: %s: %q is left; %s, want %q", expr, left, shown(got), o.Emits)
		}
	}
	if ends[api.Done] < 500 || ends[api.Trapped] < 200 {
		t.Errorf("too few: %v", ends)
	}
}
