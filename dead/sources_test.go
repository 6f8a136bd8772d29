package dead_test

import (
	"fmt"
	"math/rand"
	"slices"
	"strings"
	"testing"

	"windlass/api"
	"windlass/fold"
	"windlass/lower"
	"windlass/parse"
)

// lowered: the unit of a source.
func lowered(t *testing.T, source string) api.Unit {
	t.Helper()
	x, at, err := parse.Parse(source)
	if err != api.OK {
		t.Fatalf("%s: %d at %d", source, err, at)
	}
	u, at, err := lower.Lower(x)
	if err != api.OK {
		t.Fatalf("%s: %d at %d", source, err, at)
	}
	return u
}

// folded: what fold makes of a unit.
func folded(t *testing.T, u api.Unit) api.Unit {
	t.Helper()
	v, err := fold.Pass(u)
	if err != api.OK {
		t.Fatalf("fold: %d", err)
	}
	return v
}

// The chapter of layer 18 tells of a source what fold and dead leave of it.
func TestSum(t *testing.T) {
	u := folded(t, lowered(t, "map m: int -> int; on e() { m[0] = 1 + 2 * 3; }"))
	v := passed(t, u)
	b := v.Events[0].Blocks[0]
	if len(v.Events[0].Blocks) != 1 || len(b.Ops) != 4 || b.End != api.IRet {
		t.Fatalf("%s", unitSpelled(v))
	}
	put := b.Ops[3]
	values := map[int]int64{b.Ops[1].D: v.Ints[b.Ops[1].K], b.Ops[2].D: v.Ints[b.Ops[2].K]}
	if b.Ops[0].Code != api.ICharge || b.Ops[1].Code != api.IInt || b.Ops[2].Code != api.IInt || put.Code != api.IPut || values[put.A] != 0 || values[put.B] != 7 {
		t.Errorf("%s", unitSpelled(v))
	}
}

// sample: statements of e, and the sorts of instructions that are left of them.
type sample struct {
	statements string
	left       []int
}

// P15.2: what isn't wanted of sources.
func TestStatements(t *testing.T) {
	c := api.ICharge
	for _, w := range []sample{
		{"let x = 1;", []int{c}}, {"let x = a; let y = x; let z = y +% x;", []int{c}}, {"do a;", []int{c}}, {"do m[a];", []int{c}}, {"do has m[a];", []int{c}}, {"do P{x: a, s: str(a)}.s;", []int{c}}, {"do w[\"a\"].x < 3;", []int{c}}, {"a = 5;", []int{c}},
		{"do len(str(a)) == 1;", []int{c}}, {"let x = 1; x = x +% 1; x = x *% x; x = x -% 3;", []int{c}}, {"do not b;", []int{c}}, {"return;", []int{c}}, {"return; emit \"x\"; m[1] = 2;", []int{c}}, {"if true { return; } emit \"x\";", []int{c}}, {"if false { emit \"x\"; }", []int{c}},
		{"if true { } else { emit \"x\"; }", []int{c}}, {"while false { emit \"x\"; }", []int{c, c}}, {"while true { return; }", []int{c, c}}, {"l: while true { while true { break l; } emit \"x\"; }", []int{c, c, c}}, {"while true { let x = 1; }", []int{c, c}},
		{"do a + 1;", []int{c, api.IInt, api.IAdd}}, {"do - a;", []int{c, api.INeg}}, {"do 1 / a;", []int{c, api.IInt, api.IDiv}}, {"do str(a) & \"x\";", []int{c, api.IStr, api.IText, api.ICat}}, {"emit \"x\"; return; emit \"y\";", []int{c, api.IText, api.IEmit}},
		{"if true { emit \"x\"; } else { emit \"y\"; }", []int{c, api.IText, api.IEmit}}, {"if false { m[1] = 2; } else { del m[a]; }", []int{c, api.IDel}},
	} {
		for _, isFolded := range []bool{false, true} {
			u := lowered(t, "record P { x: int, s: text } map m: int -> int; map w: text -> P; on e(a: int, b: bool) { "+w.statements+" }")
			if isFolded {
				u = folded(t, u)
			}
			v := passed(t, u)
			var left []int
			for _, b := range v.Events[0].Blocks {
				for _, o := range b.Ops {
					left = append(left, o.Code)
				}
			}
			// How variables lie in registers is layer 13's own: moves aside.
			left = slices.DeleteFunc(left, func(code int) bool { return code == api.IMove })
			if !slices.Equal(left, w.left) {
				t.Errorf("P15.2: %s: %v, want %v\n%s", w.statements, left, w.left, unitSpelled(v))
			}
			for _, n := range []int64{0, 1, -1, 1<<63 - 1, -1 << 63} {
				wantAlike(t, u, v, run{api.State{Maps: make([][]api.Entry, 2)}, api.Event{Name: "e", Args: []api.Value{numbered(n), truth(n > 0)}}, nil, 0})
			}
		}
	}
}

// scribe writes sources by chance, in which much is never reached or never wanted.
type scribe struct {
	*rand.Rand
	isCalm bool // few expressions trap
}

func (k scribe) pick(texts ...string) string { return texts[k.Intn(len(texts))] }

func (k scribe) expr(kind string, deep int) string {
	if deep < 1 || k.Intn(5) == 0 {
		return k.leaf(kind)
	}
	one := func(kind string) string { return k.expr(kind, deep-1) }
	signs := " +  -  *  /  % "
	if k.isCalm && k.Intn(20) > 0 {
		signs = " +%  -%  *% "
	}
	switch kind {
	case "int":
		return k.pick("("+one("int")+k.pick(strings.Split(signs, "  ")...)+one("int")+")", "len("+one("text")+")", "P{s: "+one("text")+", x: "+one("int")+"}.x")
	case "text":
		if k.isCalm {
			return "str(" + one("int") + ")"
		}
		return k.pick("str("+one("int")+")", "("+one("text")+" & "+one("text")+")")
	}
	asked := k.pick("int", "text")
	return k.pick("(not "+one("bool")+")", "("+one("bool")+k.pick(" == ", " != ", " and ", " or ")+one("bool")+")", "("+one(asked)+k.pick(" == ", " < ", " >= ")+one(asked)+")")
}

func (k scribe) leaf(kind string) string {
	return k.pick(map[string][]string{
		"int":  {"0", "1", "2", "-1", "a", "x", "v", "m[a]", "m[2]", "f(a)", "len(s)", "p[a].x"},
		"text": {`""`, `"a"`, "s", "y", "u", "w[s]", `g("a")`, `ask q("q")`, "p[1].s"},
		"bool": {"true", "false", "true", "false", "b", "z", "has m[1]", "has w[s]"},
	}[kind]...)
}

func (k scribe) block(deep int) string {
	var list []string
	for range k.Intn(4) {
		list = append(list, k.statement(deep-1))
	}
	return "{ " + strings.Join(list, " ") + " }"
}

func (k scribe) statement(deep int) string {
	switch n := k.Intn(24); {
	case n < 3:
		return "emit " + k.expr("text", 2) + ";"
	case n < 5:
		return "m[" + k.expr("int", 1) + "] = " + k.expr("int", 2) + ";"
	case n < 6:
		return "w[" + k.expr("text", 1) + "] = " + k.expr("text", 2) + ";"
	case n < 12:
		name := k.pick("x", "v", "y", "u", "z")
		return name + " = " + k.expr(map[string]string{"x": "int", "v": "int", "y": "text", "u": "text", "z": "bool"}[name], 2) + ";"
	case n < 13:
		return "after " + k.pick("1", "5", k.expr("int", 1)) + " e(" + k.expr("int", 1) + ", " + k.expr("text", 1) + ", " + k.expr("bool", 1) + ");"
	case n < 15:
		return "do " + k.expr(k.pick("int", "text", "bool"), 2) + ";"
	case n < 16:
		return k.pick("p[x] = P{x: v, s: u};", "del p[x];", "del m["+k.expr("int", 1)+"];")
	case deep < 1:
		return k.pick("", "", "return;")
	case n < 20:
		return "if " + k.expr("bool", 2) + " " + k.block(deep) + " else " + k.block(deep)
	case n < 22:
		return fmt.Sprintf("l%d: while %s { x = x +%% 1; if x > 3 { break l%d; } %s %s }", deep, k.pick("true", "b", k.expr("bool", 2)), deep, k.statement(deep-1), k.pick("", "", "", "continue;", "break;", "return;"))
	}
	return fmt.Sprintf("each k%d in m { %s = k%d; %s }", deep, k.pick("x", "v"), deep, k.statement(deep-1))
}

func (k scribe) source() string {
	var body []string
	for range 4 + k.Intn(10) {
		body = append(body, k.statement(2))
	}
	return "record P { x: int, s: text } map m: int -> int; map w: text -> text; map p: int -> P; fn f(i: int) -> int { let j = i; if true { return j * 2; } else { return 0; } } fn g(i: text) -> text { let j = i & i; emit i; return i; } " +
		"on e(a: int, s: text, b: bool) { let x = 0; let v = 1; let y = \"\"; let u = \"u\"; let z = true; " + strings.Join(body, " ") + k.pick("", " emit str(x);", " emit u & str(v);", " if z { emit y; }") + " }"
}

// P15.1 to P15.3: sources by chance do the same, also behind fold.
func TestSourcesByChance(t *testing.T) {
	k := scribe{Rand: rand.New(rand.NewSource(151))}
	var s seen
	for i := range 300 {
		k.isCalm = k.Intn(3) > 0
		source := k.source()
		if len(source) > api.MaxSource {
			continue
		}
		u := lowered(t, source)
		if i%2 == 1 {
			u = folded(t, u)
		}
		v := passed(t, u)
		wantModel(t, u, v)
		c, left := codeOf(t, u), codeOf(t, v)
		s.addUnits(u, v)
		for _, r := range someRuns() {
			r.state.Maps = r.state.Maps[:3]
			s.add(wantCodesAlike(t, c, left, u, v, r))
		}
		if t.Failed() {
			t.Fatal(source)
		}
	}
	s.wantEnough(t, []int{api.TrapNone, api.TrapOver, api.TrapZero, api.TrapLong, api.TrapFull, api.TrapFuel, api.TrapAsks, api.TrapEmits, api.TrapDelay})
}

// P15.1: sources as long as they may be.
func TestLongSources(t *testing.T) {
	for what, source := range map[string]string{
		"many variables that nobody wants": "on e(a: int) { " + strings.Repeat("a = a +% 1; ", 300) + "}",
		"many that are wanted":             "on e(a: int) { " + strings.Repeat("a = a +% 1; ", 300) + "emit str(a); }",
		"much that is never reached":       "on e(a: int) { return; " + strings.Repeat("if a > 1 { emit str(a); } ", 120) + "}",
		"many that are never true":         "on e(a: int) { " + strings.Repeat("if false { emit str(a); } ", 120) + "}",
		"one in the other":                 "on e(a: int) { " + strings.Repeat("if true { a = 1; ", 35) + strings.Repeat("} else { emit str(a); } ", 35) + "}",
		"loops one in the other":           "map m: int -> int; on e(a: int) { let b = 1; " + strings.Repeat("while a < 3 { b = b *% b; ", 30) + "a = a + 1; " + strings.Repeat("} ", 30) + "}",
	} {
		u := lowered(t, source)
		v := wantSoon(t, what, u)
		wantModel(t, u, v)
		for _, n := range []int64{0, 2, 1<<63 - 1} {
			wantAlike(t, u, v, run{api.State{Maps: make([][]api.Entry, len(u.Program.Maps))}, api.Event{Name: "e", Args: []api.Value{numbered(n)}}, nil, 0})
		}
	}
}
