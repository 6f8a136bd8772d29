package emit_test

import (
	"fmt"
	"slices"
	"strings"
	"testing"

	"windlass/api"
	"windlass/emit"
)

// edge: a source at a limit; place and err, if it is one past it.
type edge struct {
	name, source string
	place        int
	err          api.Errno
}

func repeated(count int, format string) string {
	var list []string
	for i := range count {
		list = append(list, strings.ReplaceAll(format, "$", fmt.Sprint(i)))
	}
	return strings.Join(list, "")
}

// listed: elements with commas between.
func listed(count int, format string) string {
	return strings.TrimSuffix(repeated(count, format+","), ",")
}

// chain: an expression of so many integers that are unlike one another, from that one on.
func chain(from, count int) string {
	var list []string
	for i := range count {
		list = append(list, fmt.Sprint(from+i))
	}
	return strings.Join(list, "+")
}

// edges of what parse takes.
func sourceEdges() []edge {
	const e = "on e() { "
	padded := e + "m[0] = 1 + 2; } map m: int -> int;"
	deepIf := func(n int) string { return e + strings.Repeat("if true {", n) + strings.Repeat("}", n) + "}" }
	brackets := func(n int) string { return e + "do " + strings.Repeat("(", n) + "1" + strings.Repeat(")", n) + "; }" }
	nots := func(n int) string { return e + "do " + strings.Repeat("not ", n) + "true; }" }
	calls := func(n int) string {
		return "fn f(a: int) -> int { return a + 1; } " + e + "do " + strings.Repeat("f(", n) + "1" + strings.Repeat(")", n) + "; }"
	}
	wide := func(n int) string {
		return "record P { " + listed(n, "x$: int") + " } fn f(" + listed(n, "a$: int") + ") -> P { return P {" + listed(n, "x$: a$") + "}; } on e(" + listed(n, "a$: int") + ") { do f(" + listed(n, "a$") + ").x0; after 1 e(" + listed(n, "a$") + "); }"
	}
	many := func(n int) string {
		return repeated(n, "record P$ { x: int }") + repeated(n, "map m$: int -> P$;") + repeated(n, "fn f$(a: P$) -> P$ { return a; }") + repeated(n, "on e$() { m$[$] = f$(P$ { x: $ + $ }); }")
	}
	return []edge{
		{"bytes", padded + strings.Repeat(" ", api.MaxSource-len(padded)), 0, api.OK}, {"a byte more", padded + strings.Repeat(" ", api.MaxSource+1-len(padded)), 0, api.ErrLexLong}, {"a note", padded + "#" + strings.Repeat("!", api.MaxSource-1-len(padded)), 0, api.OK},
		{"blocks", deepIf(39), 0, api.OK}, {"a block more", deepIf(40), len(e) + 9*39 + 8, api.ErrParseDeep}, {"brackets", brackets(39), 0, api.OK}, {"a bracket more", brackets(40), len(e) + 3 + 39, api.ErrParseDeep}, {"nots", nots(39), 0, api.OK}, {"a not more", nots(40), len(e) + 3 + 39*4, api.ErrParseDeep},
		{"calls", calls(39), 0, api.OK}, {"a call more", calls(40), len("fn f(a: int) -> int { return a + 1; } "+e) + 3 + 39*2 + 1, api.ErrParseDeep}, {"elements", wide(12), 0, api.OK}, {"an element more", wide(13), strings.Index(wide(13), "x12"), api.ErrParseMany},
		{"declarations", many(16), 0, api.OK}, {"a declaration more", many(17), 16*20 + 6, api.ErrParseMany},
		{"a name", "on " + strings.Repeat("n", 20) + "() { let " + strings.Repeat("v", 20) + " = 1; }", 0, api.OK}, {"a longer name", "on e() { let " + strings.Repeat("v", 21) + " = 1; }", 13, api.ErrParseName},
		{"a text", e + "emit \"" + strings.Repeat("t", 64) + "\"; }", 0, api.OK}, {"a longer text", e + "emit \"" + strings.Repeat("t", 65) + "\"; }", 14, api.ErrParseName},
		{"an integer", e + "do 9223372036854775807 +% -9223372036854775808; }", 0, api.OK}, {"a greater integer", e + "do 9223372036854775808; }", 12, api.ErrParseInt}, {"a smaller integer", e + "do -9223372036854775809; }", 13, api.ErrParseInt},
	}
}

// edges of what lower takes: instructions, registers, constants.
func codeEdges() []edge {
	long := func(n int) string { return "on e() {do 1" + strings.Repeat("+1", n) + ";}" }
	roomy := func(n int) string { return "on e() {" + repeated(n, "let a$=$;") + "do a1;}" }
	return []edge{
		{"instructions", long(998), 0, api.OK}, {"instructions more", long(999), 0, api.ErrFlowForm}, {"many more", long(2000), 0, api.ErrFlowForm}, {"registers", roomy(64), 0, api.OK}, {"a register more", roomy(65), 0, api.ErrFlowForm}, {"many registers more", roomy(300), 0, api.ErrFlowForm},
		{"constants", "on e(){do " + chain(0, 500) + ";}on f(){do " + chain(500, 490) + ";}", 0, api.OK}, {"constants one by one", "map m:int->int;on e(){" + repeated(190, "m[$]=2$+8$;") + "}", 0, api.OK}, {"texts", "on e(){" + repeated(160, "do \"$\"&\"t$\"&\"$s\";") + "}", 0, api.OK},
		{"more constants", "on e(){do " + chain(-99, 199) + "+" + chain(100, 300) + ";}on f(){do " + chain(400, 520) + ";}", 0, api.OK},
	}
}

// P18.1: at each limit there is a code with each choice of passes, one past it the error, with its place.
func TestLimits(t *testing.T) {
	for _, w := range append(sourceEdges(), codeEdges()...) {
		if w.err != api.OK {
			wantRefused(t, w.source, w.place, w.err)
			continue
		}
		list := []occasion{{event: api.Event{Name: "e"}}}
		if w.name == "elements" {
			list[0].event.Args = make([]api.Value, 12)
			for i := range list[0].event.Args {
				list[0].event.Args[i] = numbered(int64(i))
			}
		}
		list[0].state = blank(codeOf(t, w.source, 0).Program)
		if strings.Contains(w.source, "on e()") || w.name == "elements" {
			wantMeaning(t, w.source, list)
		}
		for passes := range subsets() {
			c := codeOf(t, w.source, passes)
			wantPromises(t, w.source, passes)
			if isAllLiterals(w.name) && passes&api.PassFold != 0 && len(operators(c)) != 0 {
				t.Errorf("P18.2: %s: %d: %v", w.name, passes, operators(c))
			}
		}
	}
}

// isAllLiterals: whether all operators of an edge have literals alone.
func isAllLiterals(name string) bool {
	return slices.Contains([]string{"bytes", "a note", "nots", "declarations", "an integer", "instructions", "constants", "constants one by one", "texts", "more constants"}, name)
}

// full: a source that has these statements as often as there is room; labels and variables at $ are unlike.
func full(before, statements, after string) string {
	source := before
	for i := 0; ; i++ {
		more := strings.ReplaceAll(statements, "$", fmt.Sprint(i))
		if len(source)+len(more)+len(after) > api.MaxSource {
			return source + after + strings.Repeat("#", api.MaxSource-len(source)-len(after))
		}
		source += more
	}
}

// fullSources: as great as may be, of each sort of statement, also with much that is laid in, reckoned, left out and read again.
func fullSources() []string {
	const declared = "record P{x:int,s:text}map m:int->int;map w:text->text;map p:int->P;map r:int->bool;fn i(a:int)->int{return a;}fn g(a:int)->int{return i(i(m[a]))+%m[a];}fn h(a:int)->P{return P{x:g(a),s:str(a)};}fn z(){}"
	const params = "(a:int,s:text,b:bool){"
	list := []string{declared + "on e" + params + strings.Repeat("if b{while b{", 19) + "m[1]=1;" + strings.Repeat("}}", 19) + "}"}
	for _, statements := range []string{
		"m[a]=m[a];", "if b{}", "if a==$ {return;}", "do z();", "m[a]=i(i(i(a)));", "a=g(a);", "do h(a).x;", "while b{b=false;}", "each k in m{del m[k];}", "l$:while b{while true{break l$;}}", "emit w[s]&w[s];", "if 1+1==2{emit s;}else{m[1]=1;}", "m[$]=$+$*$;",
		"b=not not b;", "a=a+1;", "s=s&\"a\";", "do b and b or b;", "do P{s:str($),x:a}.s;", "after 1 e(a,s,b);", "do p[a].x+p[a].x;", "w[s]=ask q(s);", "if r[a]{r[a]=r[a]==r[a];}", "return;",
	} {
		list = append(list, full(declared+"on e"+params, statements, "}"), full(declared+"fn f"+params, statements, "}on e"+params+"do f(a,s,b);do f(1,s,b);}"))
	}
	return list
}

// P18.1, P18.2: of sources that are as great as may be each choice of passes comes to an end: with code that does what it should, or refused by layer 13.
func TestFull(t *testing.T) {
	t.Parallel()
	taken, refused := 0, 0
	for i, source := range fullSources() {
		base, at, err := emit.Compile(source, 0)
		if err != api.OK {
			refused++
			wantRefused(t, source, at, api.ErrFlowForm)
			continue
		}
		taken++
		list := fewOccasions(base.Program)
		want := outcomes(t, base, list)
		for _, passes := range []int{allPasses, i % 16, (5*i + 3) % 16} {
			for j, got := range outcomes(t, codeOf(t, source, passes), list) {
				if got != want[j] {
					t.Errorf("P18.2: %d: %s\nwant %s\n%s", passes, got, want[j], source)
				}
			}
			wantPromises(t, source, passes)
		}
	}
	if taken < 20 {
		t.Errorf("%d are taken, %d refused", taken, refused)
	}
}

// wantPromises: that what each pass that is on promises holds.
func wantPromises(t *testing.T, source string, passes int) {
	t.Helper()
	if passes&api.PassDead != 0 {
		wantReached(t, source, passes)
	}
	if passes&api.PassFuse != 0 && readsAgain(unitOf(t, source, passes)) != 0 {
		t.Errorf("P18.2: %d: reads are there again: %s", passes, source)
	}
}

// P18.1: calls and records within one another need ever more registers: there is a code, or there are too many.
func TestDeep(t *testing.T) {
	const declared = "record P{a:int,b:int,c:int,d:int}fn f(a:int,b:int,c:int,d:int)->int{return a;}"
	told := map[api.Errno]int{}
	for n := range 39 {
		for _, w := range []struct{ before, after string }{{"f(a,1,2,", ")"}, {"(a+", ")"}, {"P{a:a,b:1,c:2,d:", "}.d"}, {"f(", ",a,1,2)"}, {"P{d:1,b:", ",c:2,a:3}.b"}, {"(", "*a)"}} {
			source := declared + "on e(a:int){do " + strings.Repeat(w.before, n) + "a" + strings.Repeat(w.after, n) + ";}"
			_, at, err := emit.Compile(source, 0)
			if told[err]++; err != api.OK {
				wantRefused(t, source, len(declared), api.ErrFlowForm)
				continue
			}
			c := codeOf(t, source, allPasses)
			wantMeaning(t, source, []occasion{{blank(c.Program), api.Event{Name: "e", Args: []api.Value{numbered(1)}}, nil, at}})
		}
	}
	if told[api.OK] < 50 || told[api.ErrFlowForm] < 5 {
		t.Errorf("%v", told)
	}
}
