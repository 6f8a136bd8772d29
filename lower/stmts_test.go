package lower_test

import (
	"strings"
	"testing"

	"windlass/api"
)

// P13.2: each kind of statement.
func TestStatements(t *testing.T) {
	wantRows(t, "P13.2", []row{
		{"", "done 1", nil},
		{"emit \"a\"; emit \"b\"; m[1] = 1; m[1] = 2; m[0] = m[1]; del m[1]; emit \"c\";", "done 1 emits a,b,c m[0]=2", nil},
		{"let x = 1; x = x + 1 + x; m[x] = 1 + x;", "done 1 m[3]=4", nil},
		{"let x = 5; let c = x; x = 7; m[0] = x; m[1] = c; c = x; m[2] = c;", "done 1 m[0]=7 m[1]=5 m[2]=7", nil},
		{"let x = 2; x = x * (x + x * (x + x)); x = - x; x = x; m[0] = x;", "done 1 m[0]=-20", nil},
		{"let x = 4; x = four(x, x + 1, x + 2, m[x]); m[0] = x; x = m[0] - x; m[1] = x;", "done 2 m[0]=4560 m[1]=0", nil},
		{"let x = \"a\"; x = x & x & (x & x); x = x & str(len(x)); w[x] = x;", `done 1 w["aaaa4"]="aaaa4"`, nil},
		{"let c = P{b: true, x: 1, s: \"u\"}; c = P{s: c.s & c.s, b: not c.b, x: c.x + 1}; n[c.s] = c; let d = c; c = n[\"no\"]; n[\"d\"] = d; n[\"c\"] = c;", `done 1 n["c"]=#0{0, "", false} n["d"]=#0{2, "uu", false} n["uu"]=#0{2, "uu", false}`, nil},
		{"del m[5]; m[5] = 1; del m[5]; del m[5]; m[6] = 1;", "done 1 m[6]=1", nil},
		{"m[i(2)] = i(1); m[i(2)] = i(3);", "done 5 emits 2,1,2,3 m[2]=3", nil},
		{"if true { emit \"a\"; } emit \"b\";", "done 1 emits a,b", nil},
		{"if false { emit \"a\"; } emit \"b\";", "done 1 emits b", nil},
		{"if true { emit \"a\"; } else { emit \"b\"; } emit \"c\";", "done 1 emits a,c", nil},
		{"if false { emit \"a\"; } else { emit \"b\"; } emit \"c\";", "done 1 emits b,c", nil},
		{"if true { } else { emit \"b\"; } if false { emit \"a\"; } else { } if true { } emit \"c\";", "done 1 emits c", nil},
		{"if m[0] == 1 { emit \"a\"; } else if m[0] == 0 { emit \"b\"; } else { emit \"c\"; }", "done 1 emits b", nil},
		{"if m[0] == 1 { emit \"a\"; } else if m[0] == 2 { emit \"b\"; } else { emit \"c\"; }", "done 1 emits c", nil},
		{"if true { if false { emit \"a\"; } else { if true { emit \"b\"; } } emit \"c\"; }", "done 1 emits b,c", nil},
		{"if true { return; } else { return; } emit \"a\";", "done 1", nil},
		{"if true { return; } emit \"a\";", "done 1", nil},
		{"if false { return; } emit \"a\"; return; emit \"b\";", "done 1 emits a", nil},
		{"emit \"\"; emit str(-5) & \"x\"; let x = \"y\"; emit x;", "done 1 emits ,-5x,y", nil},
		{"after 1 u(); after 1000 v(5); after 2 + 3 y(1, \"a\", P{s: \"s\", b: true, x: 2}, false);", `done 1 after 1 u() after 1000 v(5) after 5 y(1, "a", #0{2, "s", true}, false)`, nil},
		{"let x = 7; after x v(x); x = 8; after x v(x + 1);", "done 1 after 7 v(7) after 8 v(9)", nil},
		{"do i(1); do z(2); do down(2); do 5; do i(3) + 1; let x = 1; do x; do P{x: i(4), s: \"\", b: true}; do true; do \"\"; do m[i(5)]; do has m[i(6)]; do ask port(\"a\"); do p(7); do p(8).x;", "done 12 emits 1,2,3,4,5,6,7,8 asks port(a)", []string{""}},
		{"do four(1, 2, 3, 4); let x = four(1, 2, 3, 4); m[0] = x; m[1] = four(four(0, 0, 0, 1), four(0, 0, 0, 2), 3, x);", "done 6 m[0]=1234 m[1]=2464", nil},
		{"let x = far(5); m[0] = x;", "done 7 m[0]=5", nil},
	})
}

// P13.2: each kind of expression.
func TestExpressions(t *testing.T) {
	for _, r := range []struct{ expr, want string }{
		{"5", "5"}, {"-9223372036854775808", "-9223372036854775808"}, {"9223372036854775807", "9223372036854775807"}, {"0", "0"},
		{"7 + -2", "5"}, {"7 - -2", "9"}, {"7 * -2", "-14"}, {"7 / -2", "-3"}, {"-7 / 2", "-3"}, {"-7 % 2", "-1"}, {"7 % -2", "1"}, {"- (5)", "-5"}, {"- - (5)", "5"},
		{"9223372036854775807 +% 1", "-9223372036854775808"}, {"-9223372036854775808 -% 1", "9223372036854775807"}, {"4611686018427387904 *% 2", "-9223372036854775808"}, {"4611686018427387904 *% 4", "0"},
		{"-9223372036854775808 % -1", "0"}, {"len(\"abc\")", "3"}, {"len(\"\")", "0"}, {"len(str(-10))", "3"}, {"len(\"\"\"\")", "1"},
		{"m[100]", "0"}, {"P{x: 3, s: \"a\", b: true}.x", "3"}, {"Q{d: 4, c: 3, b: 2, a: 1}.c", "3"}, {"Q{b: 1, d: 2, a: 3, c: 4}.a", "3"}, {"q[5].d", "0"}, {"p(6).x", "6,6"}, {"r(6).d", "6"}, {"r(6).b", "7"}, {"t(r(1))", "4231"}, {"t(Q{c: 3, d: 4, a: 1, b: 2})", "1234"}, {"t(q[1])", "0"},
		{"1 + 2 * 3 - 4", "3"}, {"(1 + 2) * (3 - 4)", "-3"}, {"1 - (2 - (3 - (4 - 5)))", "3"}, {"1 - 2 - 3 - 4 - 5", "-13"}, {"100 / 5 / 2 * 3 % 7", "2"},
		{"four(1, 2, 3, 4)", "1234"}, {"four(four(1, 1, 1, 1), 2, four(3, 3, 3, 3), four(4, 4, 4, 4))", "1148974"}, {"four(m[0], 1 + 1, four(0, 0, 0, 3), - (-4))", "234"},
		{"far(3)", "3"}, {"far(far(far(3)))", "3"}, {"far(2) + far(3) * far(4)", "14"},
	} {
		if got := does(t, "emit str("+r.expr+");"); !strings.HasSuffix(got, "emits "+r.want) || !strings.HasPrefix(got, "done ") {
			t.Errorf("P13.2: %s: %s, want %s", r.expr, got, r.want)
		}
	}
	for _, r := range []struct{ expr, want string }{
		{"\"a\" & \"b\"", "ab"}, {"\"a\" & (\"b\" & \"c\") & \"d\"", "abcd"}, {"str(0)", "0"}, {"w[\"a\"]", ""}, {"n[\"a\"].s", ""}, {"s(\"k\") & \"l\"", "k,kl"}, {"P{b: true, s: \"z\", x: 1}.s", "z"}, {"p(4).s", "4,4"}, {"ask port(\"x\")", "told asks port(x)"}, {"ask port(\"x\" & ask other(\"y\"))", "also asks other(y) asks port(xtold)"},
	} {
		if got := does(t, "emit "+r.expr+";", "told", "also"); strings.SplitN(got, "emits ", 2)[1] != r.want {
			t.Errorf("P13.2: %s: %s, want %s", r.expr, got, r.want)
		}
	}
}

// P13.2: expressions that tell whether.
func TestTruths(t *testing.T) {
	truths := []string{
		"true", "not false", "1 == 1", "\"a\" == \"a\"", "true == true", "false == false", "1 != 2", "\"a\" != \"b\"", "true != false", "1 < 2", "\"a\" < \"b\"", "\"\" < \"a\"", "\"B\" < \"a\"", "-1 < 0", "1 <= 1", "1 <= 2", "\"a\" <= \"a\"",
		"2 > 1", "\"b\" > \"a\"", "2 >= 2", "3 >= 2", "\"ab\" >= \"a\"", "-9223372036854775808 < 9223372036854775807", "not has m[1]", "not o[\"a\"]", "not n[\"a\"].b", "P{x: 0, b: true, s: \"\"}.b", "p(1).b", "b(true)", "true and true", "true or false", "false or true", "not (true and false)", "not (false or false)", "1 == 1 and 2 == 2 or 3 == 4", "not not true",
	}
	for _, e := range truths {
		for _, r := range []struct{ statements, want string }{
			{"if " + e + " { m[0] = 1; } else { m[0] = 2; }", "m[0]=1"}, {"if not (" + e + ") { m[0] = 1; } else { m[0] = 2; }", "m[0]=2"},
			{"o[\"a\"] = " + e + ";", `o["a"]=true`}, {"let c = " + e + "; o[\"a\"] = not c;", `o["a"]=false`},
			{"while " + e + " { m[0] = 1; break; }", "m[0]=1"}, {"while not (" + e + ") { m[0] = 1; } m[0] = m[0] + 2;", "m[0]=2"},
		} {
			if got := does(t, r.statements); !strings.HasSuffix(got, r.want) || !strings.HasPrefix(got, "done ") {
				t.Errorf("P13.2: %s: %s, want %s", r.statements, got, r.want)
			}
		}
	}
	wantRows(t, "P13.2", []row{
		{"m[3] = 0; o[\"a\"] = has m[3]; o[\"b\"] = has m[4]; del m[3]; o[\"c\"] = has m[3];", `done 1 o["a"]=true o["b"]=false o["c"]=false`, nil},
		{"w[\"a\"] = \"\"; o[\"a\"] = has w[\"a\"]; o[\"b\"] = has w[\"\"]; o[\"c\"] = has w[\"A\"];", `done 1 w["a"]="" o["a"]=true o["b"]=false o["c"]=false`, nil},
	})
}

// P13.2: variables of a block begin anew each time; those of other blocks aren't touched.
func TestVariables(t *testing.T) {
	wantRows(t, "P13.2", []row{
		{"let a = 1; while a < 3 { let c = a; a = a + 1; m[c] = a; } if true { let c = 5; m[c] = c; }", "done 4 m[1]=2 m[2]=3 m[5]=5", nil},
		{"let a = 0; while a < 3 { let c = 0; c = c + 1; m[a] = c; a = a + 1; let d = c; d = d + a; m[a + 10] = d; }", "done 5 m[0]=1 m[1]=1 m[2]=1 m[11]=2 m[12]=3 m[13]=4", nil},
		{"let a = 1; if true { let c = 2; if true { let d = 3; m[0] = a + c + d; d = 9; } let e = 4; m[1] = a + c + e; } let c = 5; m[2] = a + c;", "done 1 m[0]=6 m[1]=7 m[2]=6", nil},
		{"let a = 1; if false { let c = \"x\"; emit c; } else { let c = 2; a = a + c; } let c = true; if c { m[0] = a; }", "done 1 m[0]=3", nil},
		// A name that is given again has nothing of the variable that had it, and may stand in another register.
		{"if true { let d = 1; let c = 2; m[0] = c + d; } let c = 5; m[1] = c;", "done 1 m[0]=3 m[1]=5", nil},
		{"while m[0] < 1 { let d = 1; let c = \"z\"; w[c] = c; m[0] = d; } let c = 5; let d = \"y\"; w[d] = str(c);", `done 3 m[0]=1 w["y"]="5" w["z"]="z"`, nil},
		{"m[1] = 0; w[\"x\"] = \"\"; each k in m { emit str(k); } let a = 7; each k in w { emit k; } emit str(a);", `done 5 emits 1,x,7 m[1]=0 w["x"]=""`, nil},
		{"m[1] = 0; each k in m { let a = 3; let c = k; emit str(a + c); } let c = \"c\"; let a = \"a\"; let k = \"k\"; emit c & a & k;", "done 3 emits 4,cak m[1]=0", nil},
		{"let c = r(1); emit str(c.d) & str(c.c) & str(c.b) & str(c.a); let d = c; emit str(d.b); q[1] = d; let e = q[1]; emit str(e.c); emit str(t(e)); let f = P{x: 1, s: \"f\", b: true}; emit f.s; c = Q{a: c.d, b: c.c, c: c.b, d: c.a}; emit str(t(c));", "done 4 emits 1324,2,3,4231,f,1324 q[1]=#1{4, 2, 3, 1}", nil},
		{"m[1] = 1; m[2] = 2; each k in m { let c = 0; c = c + k; w[str(k)] = str(c); } each k in m { let c = \"\"; c = c & \"z\"; w[str(k)] = w[str(k)] & c; }", `done 7 m[1]=1 m[2]=2 w["1"]="1z" w["2"]="2z"`, nil},
		{"let a = 7; do i(a); do four(a, a, a, a); m[0] = a; let c = far(3); m[1] = a; m[2] = c;", "done 7 emits 7 m[0]=7 m[1]=7 m[2]=3", nil},
		{"let a = 1; let c = 2; let d = 3; let e = 4; let f = a; a = c; c = f; f = d; d = e; e = f; m[0] = four(a, c, d, e);", "done 2 m[0]=2143", nil},
	})
}

// P13.2: functions have variables of their own, and params are variables.
func TestFunctions(t *testing.T) {
	source := `map m: int -> int; fn f(a: int, c: int) -> int { let d = a; a = c; c = d; m[a] = c; return a * 10 + c; } fn g(a: int) -> int { if a < 2 { return a; } return g(a - 1) + g(a - 2); }
fn h(a: int) { while true { a = a - 1; if a < 0 { return; } m[a] = a; } } fn k(a: int) -> bool { each c in m { if c == a { return true; } } return false; } fn even(a: int) -> bool { if a == 0 { return true; } return odd(a - 1); } fn odd(a: int) -> bool { if a == 0 { return false; } return even(a - 1); }
on e(a: int, c: int) { let d = 1; do f(a, c); m[100] = f(c, a) + d; m[101] = a; m[102] = c; }
on fib() { m[0] = g(6); } on down() { do h(3); m[50] = 1; } on find() { m[3] = 1; if k(3) and not k(4) { m[4] = 1; } } on both() { if even(6) and not even(5) and odd(3) { m[0] = 1; } }
`
	x := read(t, source)
	c := coded(t, x)
	for _, r := range []struct {
		e    api.Event
		want string
	}{
		{api.Event{Name: "e", Args: []api.Value{numbered(3), numbered(4)}}, "done 3 m[3]=4 m[4]=3 m[100]=35 m[101]=3 m[102]=4"},
		{api.Event{Name: "fib"}, "done 26 m[0]=8"},
		{api.Event{Name: "down"}, "done 6 m[0]=0 m[1]=1 m[2]=2 m[50]=1"},
		{api.Event{Name: "find"}, "done 6 m[3]=1 m[4]=1"},
		{api.Event{Name: "both"}, "done 18 m[0]=1"},
	} {
		if got := told(c.Program, runCode(t, c, x, blank(c.Program), r.e, nil, 0)); got != r.want {
			t.Errorf("P13.2: %s: %s, want %s", r.e.Name, got, r.want)
		}
	}
}

// P13.2: handlers take their arguments, of all types; each its own.
func TestHandlers(t *testing.T) {
	x := read(t, `record P { x: int, s: text } map m: int -> text; map n: text -> P; map o: int -> bool; on a() { m[0] = "a"; } on c(k: int, s: text, p: P, z: bool) { m[k] = s & p.s; n[s] = p; o[p.x] = z; } on d(p: P, k: int) { n[p.s] = P{s: str(k), x: p.x + k}; }`)
	c := coded(t, x)
	p := api.Value{Kind: api.Record, Fields: []api.Value{numbered(8), texted("w")}}
	for _, r := range []struct {
		e    api.Event
		want string
	}{
		{api.Event{Name: "a"}, `done 1 m[0]="a"`},
		{api.Event{Name: "c", Args: []api.Value{numbered(5), texted("v"), p, truth(true)}}, `done 1 m[5]="vw" n["v"]=#0{8, "w"} o[8]=true`},
		{api.Event{Name: "d", Args: []api.Value{p, numbered(-9)}}, `done 1 n["w"]=#0{-1, "-9"}`},
	} {
		if got := told(c.Program, runCode(t, c, x, blank(c.Program), r.e, nil, 0)); got != r.want {
			t.Errorf("P13.2: %s: %s, want %s", r.e.Name, got, r.want)
		}
	}
}
