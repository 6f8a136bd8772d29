package inline_test

import (
	"fmt"
	"math/rand"
	"slices"
	"strings"
	"testing"

	"windlass/api"
	"windlass/dead"
	"windlass/fold"
	"windlass/lower"
	"windlass/parse"
)

// lowered: the unit of a source.
func lowered(t *testing.T, source string) api.Unit {
	t.Helper()
	x, at, err := parse.Parse(source)
	if err != api.OK {
		t.Fatalf("%s: %d at %d", source, err, at)
	}
	u, at, err := lower.Lower(x)
	if err != api.OK {
		t.Fatalf("%s: %d at %d", source, err, at)
	}
	return u
}

// behindPasses: what the passes of the layers ahead make of a unit: none of them, fold, both.
func behindPasses(t *testing.T, u api.Unit, count int) api.Unit {
	t.Helper()
	for _, pass := range []func(api.Unit) (api.Unit, api.Errno){fold.Pass, dead.Pass}[:count] {
		v, err := pass(u)
		if err != api.OK {
			t.Fatalf("a pass ahead: %d", err)
		}
		u = v
	}
	return u
}

// declared: a source's functions; those behind eight aren't small.
const declared = `record P { x: int, s: text } map m: int -> int; map w: text -> P;
fn none() { } fn one() -> int { return 1; } fn same(i: int) -> int { return i; } fn put(k: int, v: int) { m[k] = v; } fn say(s: text) -> text { emit s; return s; }
fn pair(x: int) -> P { return P{x: x, s: "a"}; } fn asked(s: text) -> text { return ask port(s); } fn timer(d: int) { after d e(d, true, "t"); } fn part(a: int, b: int) -> int { return a / b; }
fn eight(a: int) -> int { let b = a +% 1; let c = b *% 2; return c -% 3; } fn nine(a: int) -> int { let b = a; let c = b *% 2; let d = a -% c; return d +% c *% b -% a; }
fn both(a: bool, b: bool) -> bool { return a and b; } fn outer(a: int) -> int { return part(a, 2); } fn rec(n: int) -> int { if n > 0 { return rec(n - 1); } return same(n); }
`

// sample: statements of e, and the sorts of instructions that are left of them.
type sample struct {
	statements string
	left       []int
}

// P16.2: calls of small functions, as sources have them; all others stay.
func TestStatements(t *testing.T) {
	c, in, out := api.ICharge, api.IEnter, api.ILeave
	for _, w := range []sample{
		{"do none();", []int{in, c, out}}, {"do none(); do none();", []int{in, c, out, in, c, out}}, {"do one();", []int{in, c, api.IInt, out}}, {"do same(a);", []int{in, c, out}}, {"a = same(a);", []int{in, c, out}}, {"let x = same(same(same(a)));", []int{in, c, out, in, c, out, in, c, out}},
		{"do put(a, 2);", []int{api.IInt, in, c, api.IPut, out}}, {"do say(s);", []int{in, c, api.IEmit, out}}, {"s = say(str(a));", []int{api.IStr, in, c, api.IEmit, out}}, {"w[s] = pair(a);", []int{in, c, api.IText, api.IMake, out, api.IPut}}, {"do pair(a).s;", []int{in, c, api.IText, api.IMake, out, api.IField}},
		{"do asked(s);", []int{in, c, api.IAsk, out}}, {"emit asked(asked(s));", []int{in, c, api.IAsk, out, in, c, api.IAsk, out, api.IEmit}}, {"do timer(a);", []int{in, c, api.IBool, api.IText, api.IAfter, out}}, {"do part(a, a);", []int{in, c, api.IDiv, out}},
		{"do eight(a);", []int{in, c, api.IInt, api.IWAdd, api.IInt, api.IWMul, api.IInt, api.IWSub, out}}, {"do nine(a);", []int{api.ICall}}, {"do both(b, true);", []int{api.IBool, api.ICall}}, {"do outer(a);", []int{api.ICall}}, {"do rec(a);", []int{api.ICall}},
		{"do nine(same(a)) + same(nine(a));", []int{in, c, out, api.ICall, api.ICall, in, c, out, api.IAdd}}, {"if both(b, b) { do none(); }", []int{api.ICall, in, c, out}}, {"while a > 0 { a = part(a, 2); }", []int{c, api.IInt, api.IGt, api.IInt, in, c, api.IDiv, out}},
		{"each k in m { do put(k, k); }", []int{api.IInt, api.IBool, c, api.INext, in, c, api.IPut, out, api.IBool}}, {"if false { do none(); }", []int{api.IBool, in, c, out}},
	} {
		u := lowered(t, declared+"on e(a: int, b: bool, s: text) { "+w.statements+" }")
		v := passed(t, u)
		left := []int{}
		for _, b := range v.Events[0].Blocks {
			for _, o := range b.Ops {
				left = append(left, o.Code)
			}
		}
		// How variables lie in registers is layer 13's own: moves aside.
		left = slices.DeleteFunc(left[1:], func(code int) bool { return code == api.IMove })
		if !slices.Equal(left, w.left) {
			t.Errorf("P16.2: %s: %v, want %v\n%s", w.statements, left, w.left, unitSpelled(v))
		}
		if outer := lines(v.Funcs[12].Blocks[0].Ops); strings.Contains(strings.Join(outer, ";"), "call") {
			t.Errorf("P16.2: %s", outer)
		}
		wantSourceAlike(t, u, v)
	}
}

// wantSourceAlike: runs of e(int, bool, text) on two maps.
func wantSourceAlike(t *testing.T, u, v api.Unit) {
	t.Helper()
	for i, n := range []int64{0, 1, -1, 9, 11, 12, 13, 1000, 1001, 1<<63 - 1, -1 << 63} {
		state := api.State{Maps: [][]api.Entry{filled(8 * (i % 4)).Maps[numbers], nil}}
		e := api.Event{Name: "e", Args: []api.Value{numbered(n), truth(n > 0), texted("a")}}
		wantAlike(t, u, v, run{state, e, []string{"one", "two", strings.Repeat("z", 65)}[:i%4], i})
	}
}

// P16.3: open calls, charges and traps of sources whose functions call one another as deep as may be.
func TestDeepSources(t *testing.T) {
	for _, statements := range []string{
		"if n > 0 { return down(n - 1); } return same(n);", "if n > 0 { return same(down(n - 1)); } return 0;", "if n > 0 { return down(same(n) - 1); } return one();", "if n > 0 { do down(n - 1); do down(n - 1); } do say(str(n)); return n;",
		"if n > 0 { do none(); do down(n - 1); do none(); } do asked(str(n)); return n;", "do put(n, n); if n > 0 { return part(down(n - 1), n - 11); } return n;", "if n > 0 { return down(n - 1) + down(n - 2); } do timer(n + 5); return same(n);",
	} {
		u := lowered(t, declared+"fn down(n: int) -> int { "+statements+" } on e(a: int, b: bool, s: text) { m[1] = down(a); if b { m[2] = same(down(a % 12)); } }")
		for count := range 3 {
			u := behindPasses(t, u, count)
			wantSourceAlike(t, u, passed(t, u))
		}
	}
	var depths []int
	u := lowered(t, declared+"on e(a: int, b: bool, s: text) { do rec(a); }")
	v := passed(t, u)
	for n := range int64(14) {
		o := wantAlike(t, u, v, run{api.State{Maps: make([][]api.Entry, 2)}, api.Event{Name: "e", Args: []api.Value{numbered(n), truth(true), texted("")}}, nil, 0})
		if o.Trap == api.TrapDepth {
			depths = append(depths, int(n))
		}
	}
	// rec, n times more, and same.
	if !slices.Equal(depths, []int{11, 12, 13}) {
		t.Errorf("P16.3: %v", depths)
	}
}

// scribe writes sources by chance, with many calls of small functions.
type scribe struct {
	*rand.Rand
	isCalm bool // few expressions trap
}

func (k scribe) pick(texts ...string) string { return texts[k.Intn(len(texts))] }

func (k scribe) expr(kind string, deep int) string {
	if deep < 1 || k.Intn(5) == 0 {
		return k.leaf(kind)
	}
	one := func(kind string) string { return k.expr(kind, deep-1) }
	signs := " +  -  *  /  % "
	if k.isCalm && k.Intn(20) > 0 {
		signs = " +%  -%  *% "
	}
	switch kind {
	case "int":
		return k.pick("("+one("int")+k.pick(strings.Split(signs, "  ")...)+one("int")+")", "len("+one("text")+")", "P{s: "+one("text")+", x: "+one("int")+"}.x")
	case "text":
		if k.isCalm {
			return "str(" + one("int") + ")"
		}
		return k.pick("str("+one("int")+")", "("+one("text")+" & "+one("text")+")")
	}
	asked := k.pick("int", "text")
	return k.pick("(not "+one("bool")+")", "("+one("bool")+k.pick(" == ", " != ", " and ", " or ")+one("bool")+")", "("+one(asked)+k.pick(" == ", " < ", " >= ")+one(asked)+")")
}

func (k scribe) leaf(kind string) string {
	return k.pick(map[string][]string{
		"int":  {"0", "1", "2", "-1", "a", "x", "v", "m[a]", "m[2]", "f(a)", "f(f(x))", "d(x, v)", "d(a, f(v))", "r(a)", "big(x)", "p[a].x"},
		"text": {`""`, `"a"`, "s", "y", "u", "w[s]", `g("a")`, "g(u)", `c("a")`, "c(y)", `ask q("q")`, "pair(x, s).s"},
		"bool": {"true", "false", "b", "z", "has m[1]", "has w[s]", "n(b)", "n(n(z))"},
	}[kind]...)
}

func (k scribe) block(deep int) string {
	var list []string
	for range k.Intn(4) {
		list = append(list, k.statement(deep-1))
	}
	return "{ " + strings.Join(list, " ") + " }"
}

func (k scribe) statement(deep int) string {
	switch n := k.Intn(24); {
	case n < 3:
		return "emit " + k.expr("text", 2) + ";"
	case n < 5:
		return "m[" + k.expr("int", 1) + "] = " + k.expr("int", 2) + ";"
	case n < 6:
		return "w[" + k.expr("text", 1) + "] = " + k.expr("text", 2) + ";"
	case n < 12:
		name := k.pick("x", "v", "y", "u", "z")
		return name + " = " + k.expr(map[string]string{"x": "int", "v": "int", "y": "text", "u": "text", "z": "bool"}[name], 2) + ";"
	case n < 13:
		return "after " + k.pick("1", "5", k.expr("int", 1)) + " e(" + k.expr("int", 1) + ", " + k.expr("text", 1) + ", " + k.expr("bool", 1) + ");"
	case n < 15:
		return "do " + k.expr(k.pick("int", "text", "bool"), 2) + ";"
	case n < 17:
		return k.pick("p[x] = P{x: v, s: u};", "p[x] = pair(f(v), g(u));", "do put(a, v);", "do nothing();", "do t(x);", "do t(f(5));", "del p[x];", "del m["+k.expr("int", 1)+"];")
	case deep < 1:
		return k.pick("", "", "return;")
	case n < 20:
		return "if " + k.expr("bool", 2) + " " + k.block(deep) + " else " + k.block(deep)
	case n < 22:
		return fmt.Sprintf("l%d: while %s { x = x +%% 1; if x > 3 { break l%d; } %s %s }", deep, k.pick("true", "b", k.expr("bool", 2)), deep, k.statement(deep-1), k.pick("", "", "", "continue;", "break;", "return;"))
	}
	return fmt.Sprintf("each k%d in m { %s = k%d; %s }", deep, k.pick("x", "v"), deep, k.statement(deep-1))
}

func (k scribe) source() string {
	var body []string
	for range 4 + k.Intn(10) {
		body = append(body, k.statement(2))
	}
	return "record P { x: int, s: text } map m: int -> int; map w: text -> text; map p: int -> P; fn nothing() { } fn f(i: int) -> int { let j = i; return j * 2; } fn d(i: int, j: int) -> int { return i / j; } fn put(i: int, j: int) { m[i] = j; } " +
		"fn g(i: text) -> text { emit i; return i & i; } fn c(i: text) -> text { return ask r(i); } fn t(i: int) { after i e(i, \"t\", true); } fn n(b: bool) -> bool { return not b; } fn pair(x: int, s: text) -> P { return P{x: x, s: s}; } " +
		"fn big(i: int) -> int { if true { return f(i); } else { return d(i, 0); } } fn r(i: int) -> int { if i > 0 and i < 60 { return r(f(i) - i - 1); } do nothing(); return f(i); } " +
		"on e(a: int, s: text, b: bool) { let x = 0; let v = 1; let y = \"\"; let u = \"u\"; let z = true; " + strings.Join(body, " ") + k.pick("", " emit str(x);", " emit u & str(v);", " if z { emit y; }") + " }"
}

// P16.1 to P16.3: sources by chance do the same, also behind the passes ahead.
func TestSourcesByChance(t *testing.T) {
	k := scribe{Rand: rand.New(rand.NewSource(161))}
	var s seen
	for i := range 300 {
		k.isCalm = k.Intn(3) > 0
		source := k.source()
		if len(source) > api.MaxSource {
			continue
		}
		u := behindPasses(t, lowered(t, source), i%3)
		v := passed(t, u)
		wantModel(t, u, v)
		c, left := codeOf(t, u), codeOf(t, v)
		s.addUnits(u, v)
		for _, r := range someRuns() {
			r.state.Maps = r.state.Maps[:3]
			s.add(wantCodesAlike(t, c, left, u, v, r))
		}
		if t.Failed() {
			t.Fatal(source)
		}
	}
	if s.calls[1] > 0 || s.calls[2] > 0 {
		t.Errorf("P16.2: calls are left: %v", s.calls)
	}
	s.wantEnough(t, 1, []int{api.TrapNone, api.TrapOver, api.TrapZero, api.TrapLong, api.TrapFull, api.TrapFuel, api.TrapDepth, api.TrapAsks, api.TrapEmits, api.TrapDelay})
}

// P16.1: sources as long as they may be.
func TestLongSources(t *testing.T) {
	const functions = "fn f(a: int) -> int { return a +% 1; } fn n() { } "
	for what, source := range map[string]string{
		"calls in a row":         "on e(a: int) { " + strings.Repeat("a = f(a); ", 390) + "}",
		"calls without anything": "on e(a: int) { " + strings.Repeat("do n(); ", 480) + "}",
		"calls in calls":         "on e(a: int) { a = " + strings.Repeat("f(", 35) + "a" + strings.Repeat(")", 35) + "; emit str(a); }",
		"many functions":         "on e(a: int) { do f0(); do f12(); }" + rowOfFunctions(13),
		"loops one in the other": "on e(a: int) { let b = 1; " + strings.Repeat("while a < 3 { b = f(b); ", 30) + "a = a + 1; " + strings.Repeat("} ", 30) + "}",
	} {
		u := lowered(t, functions+source)
		v := wantSoon(t, what, u)
		wantModel(t, u, v)
		for _, n := range []int64{0, 2, 1<<63 - 1} {
			wantAlike(t, u, v, run{api.State{Maps: make([][]api.Entry, len(u.Program.Maps))}, api.Event{Name: "e", Args: []api.Value{numbered(n)}}, nil, 0})
		}
	}
}

// rowOfFunctions: each calls the next one; the last one is small.
func rowOfFunctions(count int) string {
	var list []string
	for i := range count - 1 {
		list = append(list, fmt.Sprintf("fn f%d() { do f%d(); }", i, i+1))
	}
	return strings.Join(append(list, fmt.Sprintf("fn f%d() { emit \"x\"; }", count-1)), " ")
}
