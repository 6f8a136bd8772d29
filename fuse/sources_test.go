package fuse_test

import (
	"fmt"
	"math/rand"
	"strings"
	"testing"

	"windlass/api"
	"windlass/dead"
	"windlass/fold"
	"windlass/inline"
	"windlass/lower"
	"windlass/parse"
)

// lowered: the unit of a source.
func lowered(t *testing.T, source string) api.Unit {
	t.Helper()
	x, at, err := parse.Parse(source)
	if err != api.OK {
		t.Fatalf("%s: %d at %d", source, err, at)
	}
	u, at, err := lower.Lower(x)
	if err != api.OK {
		t.Fatalf("%s: %d at %d", source, err, at)
	}
	return u
}

// behindPasses: what the passes of the layers ahead make of a unit: none of them, fold, dead too, all.
func behindPasses(t *testing.T, u api.Unit, count int) api.Unit {
	t.Helper()
	for _, pass := range []func(api.Unit) (api.Unit, api.Errno){fold.Pass, dead.Pass, inline.Pass}[:count] {
		v, err := pass(u)
		if err != api.OK {
			t.Fatalf("a pass ahead: %d", err)
		}
		u = v
	}
	return u
}

// declared: a source's maps and functions.
const declared = `record P { x: int, s: text } map m: int -> int; map w: text -> text; map p: int -> P; map q: text -> bool;
fn none() { } fn same(i: int) -> int { return i; } fn set(k: int, v: int) { m[k] = v; } fn wipe(k: int) { del m[k]; } fn both(k: int) -> int { return m[k] +% m[k]; } fn say(s: text) -> text { emit w[s] & w[s]; return w[s]; }
`

// sample: statements of e, how many reads there are, and how many of them are left.
type sample struct {
	statements string
	was, left  int
}

// P17.2: reads of the same, as sources have them.
func TestStatements(t *testing.T) {
	for _, w := range []sample{
		{"do m[a];", 1, 1}, {"do m[a]; do m[a];", 2, 1}, {"do m[a] + m[a];", 2, 1}, {"do m[a] + m[a] * m[a];", 3, 1}, {"emit w[s] & w[s];", 2, 1}, {"let x = m[a]; let y = m[a];", 2, 1}, {"let x = m[a]; x = m[a]; emit str(x);", 2, 1},
		{"let x = p[a]; let y = p[a].x; emit p[a].s;", 3, 1}, {"let x = p[a]; m[a] = p[a].x; w[s] = p[a].s; emit w[s];", 4, 2}, {"m[a] = m[a] + m[a];", 2, 1}, {"m[a] = m[a] + 1; m[a] = m[a] + 1;", 2, 2}, {"let x = m[a]; m[a] = 5; let y = m[a];", 2, 2},
		{"let x = m[a]; del m[a]; let y = m[a];", 2, 2}, {"let x = m[a]; m[a + 1] = 5; let y = m[a];", 2, 2}, {"let x = m[a]; w[s] = \"x\"; del p[a]; let y = m[a];", 2, 1}, {"let x = m[a]; do none(); let y = m[a];", 2, 2}, {"let x = m[a]; do both(a); do m[a];", 2, 2},
		{"let x = m[a]; emit \"x\"; after 5 e(a, b, s); do ask port(s); let y = m[a];", 2, 1}, {"let x = m[a]; let y = has m[a]; do m[a];", 2, 1}, {"let x = m[a]; a = 5; let y = m[a];", 2, 2}, {"let x = m[a]; x = 5; let y = m[a];", 2, 2}, {"a = m[a]; a = m[a];", 2, 2},
		{"let x = m[a]; if b { let y = m[a]; let z = m[a]; }", 3, 2}, {"while m[a] > 0 { let x = m[a]; m[a] = m[a] - 1; }", 3, 2}, {"each k in m { let x = m[k]; m[k] = m[k] + m[k]; do m[k]; }", 4, 2}, {"each k in m { let x = m[k]; let y = p[k]; m[a] = 1; do m[k]; do p[k]; }", 4, 3},
		{"if q[s] and q[s] { do q[s]; }", 3, 3},
	} {
		u := lowered(t, declared+"on e(a: int, b: bool, s: text) { "+w.statements+" }")
		v := passed(t, u)
		was, left := countReads(u.Events[0]), countReads(v.Events[0])
		if was != w.was || left != w.left {
			t.Errorf("P17.2: %s: %d of %d, want %d of %d\n%s\nbecame\n%s", w.statements, left, was, w.left, w.was, unitSpelled(u), unitSpelled(v))
		}
		if one, two := countReads(v.Funcs[4]), countReads(v.Funcs[5]); one != 1 || two != 1 {
			t.Errorf("P17.2: functions: %d, %d", one, two)
		}
		wantSourceAlike(t, u, v)
	}
}

func countReads(g api.Graph) int {
	count := 0
	for _, b := range g.Blocks {
		count += countOf(b.Ops, api.IGet)
	}
	return count
}

// wantSourceAlike: runs of e(int, bool, text) on maps in that order.
func wantSourceAlike(t *testing.T, u, v api.Unit) {
	t.Helper()
	for i, n := range []int64{0, 1, -1, 2, 9, 11, 12, 13, 1000, 1<<63 - 1, -1 << 63} {
		all := filled(8 * (i % 4)).Maps
		state := api.State{Maps: [][]api.Entry{all[numbers], all[texts], all[pairs], all[flags]}[:len(u.Program.Maps)]}
		e := api.Event{Name: "e", Args: []api.Value{numbered(n), truth(n > 0), texted([]string{"a", "k101"}[i%2])}}
		wantAlike(t, u, v, run{state, e, []string{"one", "two", strings.Repeat("z", 65)}[:i%4], i})
	}
}

// P17.3: what inline lays in its place may read what was read ahead of the call: no call stands between the two any more.
func TestLaidIn(t *testing.T) {
	u := lowered(t, declared+"on e(a: int, b: bool, s: text) { let x = m[a]; do both(a); do none(); let y = m[a]; do wipe(a); let z = m[a]; emit str(x +% y +% z); }")
	v := passed(t, u)
	if left := countReads(v.Events[0]); left != 3 {
		t.Errorf("P17.2: %d reads are left", left)
	}
	laid := behindPasses(t, u, 3)
	fused := passed(t, laid)
	// The function's own register is another one.
	if was, left := countReads(laid.Events[0]), countReads(fused.Events[0]); was != 5 || left != 3 {
		t.Errorf("P17.2: %d of %d reads are left\n%s", left, was, unitSpelled(fused))
	}
	wantSourceAlike(t, u, v)
	wantSourceAlike(t, laid, fused)
}

// scribe writes sources by chance, in which much is read again.
type scribe struct {
	*rand.Rand
	isCalm bool // few expressions trap
}

func (k scribe) pick(texts ...string) string { return texts[k.Intn(len(texts))] }

func (k scribe) expr(kind string, deep int) string {
	if deep < 1 || k.Intn(5) == 0 {
		return k.leaf(kind)
	}
	one := func(kind string) string { return k.expr(kind, deep-1) }
	signs := " +  -  *  /  % "
	if k.isCalm && k.Intn(20) > 0 {
		signs = " +%  -%  *% "
	}
	switch kind {
	case "int":
		return k.pick("("+one("int")+k.pick(strings.Split(signs, "  ")...)+one("int")+")", "len("+one("text")+")", "P{s: "+one("text")+", x: "+one("int")+"}.x")
	case "text":
		if k.isCalm {
			return "str(" + one("int") + ")"
		}
		return k.pick("str("+one("int")+")", "("+one("text")+" & "+one("text")+")")
	}
	asked := k.pick("int", "text")
	return k.pick("(not "+one("bool")+")", "("+one("bool")+k.pick(" == ", " != ", " and ", " or ")+one("bool")+")", "("+one(asked)+k.pick(" == ", " < ", " >= ")+one(asked)+")")
}

func (k scribe) leaf(kind string) string {
	return k.pick(map[string][]string{
		"int":  {"1", "-1", "a", "x", "m[a]", "m[a]", "m[x]", "m[v]", "f(a)", "len(w[s])", "p[a].x", "p[x].x"},
		"text": {`"a"`, "s", "y", "u", "w[s]", "w[s]", "w[y]", `g("a")`, `ask q("q")`, "p[x].s", "p[a].s"},
		"bool": {"true", "b", "z", "has m[a]", "has w[s]", "r[a]", "r[x]", "r[a]"},
	}[kind]...)
}

func (k scribe) block(deep int) string {
	var list []string
	for range k.Intn(4) {
		list = append(list, k.statement(deep-1))
	}
	return "{ " + strings.Join(list, " ") + " }"
}

func (k scribe) statement(deep int) string {
	switch n := k.Intn(24); {
	case n < 3:
		return "emit " + k.expr("text", 2) + ";"
	case n < 5:
		return "m[" + k.expr("int", 1) + "] = " + k.expr("int", 2) + ";"
	case n < 6:
		return "w[" + k.expr("text", 1) + "] = " + k.expr("text", 2) + ";"
	case n < 12:
		name := k.pick("x", "v", "y", "u", "z")
		return name + " = " + k.expr(map[string]string{"x": "int", "v": "int", "y": "text", "u": "text", "z": "bool"}[name], 2) + ";"
	case n < 13:
		return "after " + k.pick("1", "5", k.expr("int", 1)) + " e(" + k.expr("int", 1) + ", " + k.expr("text", 1) + ", " + k.expr("bool", 1) + ");"
	case n < 15:
		return "do " + k.expr(k.pick("int", "text", "bool"), 2) + ";"
	case n < 16:
		return k.pick("p[x] = P{x: v, s: u};", "del p[x];", "r[a] = z;", "r[x] = not r[x];", "do c(x);", "del m["+k.expr("int", 1)+"];")
	case deep < 1:
		return k.pick("", "", "return;")
	case n < 20:
		return "if " + k.expr("bool", 2) + " " + k.block(deep) + " else " + k.block(deep)
	case n < 22:
		return fmt.Sprintf("l%d: while %s { x = x +%% 1; if x > 3 { break l%d; } %s %s }", deep, k.pick("true", "b", k.expr("bool", 2)), deep, k.statement(deep-1), k.pick("", "", "", "continue;", "break;", "return;"))
	}
	return fmt.Sprintf("each k%d in m { %s = k%d; %s }", deep, k.pick("x", "v"), deep, k.statement(deep-1))
}

func (k scribe) source() string {
	var body []string
	for range 4 + k.Intn(10) {
		body = append(body, k.statement(2))
	}
	return "record P { x: int, s: text } map m: int -> int; map w: text -> text; map p: int -> P; map r: int -> bool; fn f(i: int) -> int { let j = i; if true { return j * m[i] - m[i]; } else { return 0; } } " +
		"fn g(i: text) -> text { let j = w[i] & w[i]; emit j; return w[i]; } fn c(i: int) { m[i] = 3; del p[i]; } " +
		"on e(a: int, s: text, b: bool) { let x = 0; let v = 1; let y = \"\"; let u = \"u\"; let z = true; " + strings.Join(body, " ") + k.pick("", " emit str(x);", " emit u & str(v);", " if z { emit y; }") + " }"
}

// P17.1 to P17.3: sources by chance do the same, also behind the passes ahead.
func TestSourcesByChance(t *testing.T) {
	k := scribe{Rand: rand.New(rand.NewSource(171))}
	var s seen
	for i := range 300 {
		k.isCalm = k.Intn(3) > 0
		source := k.source()
		if len(source) > api.MaxSource {
			continue
		}
		u := behindPasses(t, lowered(t, source), i%4)
		v := passed(t, u)
		wantModel(t, u, v)
		c, left := codeOf(t, u), codeOf(t, v)
		s.addUnits(u, v)
		for _, r := range someRuns() {
			r.state.Maps = r.state.Maps[:4]
			s.add(wantCodesAlike(t, c, left, u, v, r))
		}
		if t.Failed() {
			t.Fatal(source)
		}
	}
	s.wantEnough(t, []int{api.TrapNone, api.TrapOver, api.TrapZero, api.TrapLong, api.TrapFull, api.TrapFuel, api.TrapAsks, api.TrapEmits, api.TrapDelay})
}

// P17.1: sources as long as they may be.
func TestLongSources(t *testing.T) {
	for what, source := range map[string]string{
		"reads in a row":         "on e(a: int) { let b = 0; " + strings.Repeat("b = b +% m[a]; ", 250) + "emit str(b); }",
		"reads by unlike keys":   "on e(a: int) { " + strings.Repeat("a = m[a]; ", 390) + "}",
		"reads and writings":     "on e(a: int) { " + strings.Repeat("m[a] = m[a] +% m[a]; ", 180) + "}",
		"reads in conditions":    "on e(a: int) { " + strings.Repeat("if m[a] == m[a] { a = m[a]; } ", 120) + "}",
		"loops one in the other": "on e(a: int) { " + strings.Repeat("while m[a] +% m[a] < 3 { ", 30) + "m[a] = m[a] + m[a] + 1; " + strings.Repeat("} ", 30) + "}",
	} {
		u := lowered(t, "map m: int -> int; "+source)
		v := wantSoon(t, what, u)
		wantModel(t, u, v)
		for _, n := range []int64{0, 2, 1<<63 - 1} {
			wantAlike(t, u, v, run{api.State{Maps: make([][]api.Entry, len(u.Program.Maps))}, api.Event{Name: "e", Args: []api.Value{numbered(n)}}, nil, 0})
		}
	}
}
