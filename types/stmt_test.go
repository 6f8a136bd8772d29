package types_test

import (
	"strings"
	"testing"

	"windlass/api"
)

// P8.3: each sort of statement, taken.
func TestStatements(t *testing.T) {
	wantAllTaken(t, in,
		"", "let a = 1; a = a + 2; n[str(a)] = a;", "let a = r; a = m[1]; m[a.x] = a; do a.x + 1;", "let a = z.b; a = not a;", "i = 2; w = w & w; c = c or c; r = m[i]; z = q();",
		`m[1] = P{x: 1, s: ""};`, `n[""] = 1;`, "del m[1];", "del n[w];", "if c { } else { }", "if true { i = 1; } else if c { i = 2; } else { i = 3; }", "while c { }", "each k in m { do k + 1; k = 5; }", `each k in n { do k & ""; k = "a"; }`,
		"while c { break; }", "while c { continue; }", "each k in m { break; continue; }", "l: while c { break l; }", "l: each k in m { continue l; }", "return;", "return; return; i = 1;", "emit w;", "emit f(1) & str(i);",
		"after 1 t(1, w);", "after i + 1 u();", "after len(w) e(i, w, c, r, z);", "do i;", "do w;", "do c;", "do r;", "do z;", "do g();", "do q().b;", `do ask nope("");`,
	)
	for _, kind := range []string{"int", "text", "bool", "P", "Q"} {
		for _, s := range sorts {
			if s.kind == kind {
				wantTaken(t, inFunc(kind, "return "+s.expr+";"))
				wantTaken(t, inFunc(kind, "if c { return "+s.expr+"; } return "+s.expr+";"))
			} else {
				wantFault(t, inFunc(kind, "return @"+s.expr+";"), api.ErrTypeType)
			}
		}
	}
}

// P8.3: expressions of each type, and of none, where each statement asks for one.
func TestTypesInStatements(t *testing.T) {
	for asks, asked := range map[string]string{
		"i = ?;": "int", "w = ?;": "text", "c = ?;": "bool", "r = ?;": "P", "z = ?;": "Q",
		"m[?] = r;": "int", "m[1] = ?;": "P", "n[?] = 1;": "text", "n[w] = ?;": "int", "del m[?];": "int", "del n[?];": "text",
		"if ? { }": "bool", "if c { } else if ? { }": "bool", "while ? { }": "bool", "l: while ? { }": "bool", "emit ?;": "text",
		"after ? u();": "int", "after ? t(1, w);": "int", "after 1 t(?, w);": "int", "after 1 t(1, ?);": "text", "after 1 e(1, w, ?, r, z);": "bool", "after 1 e(1, w, c, ?, z);": "P", "after 1 e(1, w, c, r, ?);": "Q",
		"let v = i; v = ?;": "int", "let v = z; v = ?;": "Q", "each k in m { k = ?; }": "int", "each k in n { k = ?; }": "text", "let v = has m[1]; v = ?;": "bool",
	} {
		for _, s := range sorts {
			if s.kind == asked {
				wantTaken(t, in(strings.Replace(asks, "?", s.expr, 1)))
			} else {
				wantFault(t, in(strings.Replace(asks, "?", "@"+s.expr, 1)), api.ErrTypeType)
			}
		}
	}
	for _, s := range sorts {
		wantTaken(t, in("do "+s.expr+";"))
		if s.kind == "none" {
			wantFault(t, in("let v = @"+s.expr+";"), api.ErrTypeType)
		} else {
			wantTaken(t, in("let v = "+s.expr+"; "+good[s.kind]))
		}
	}
}

// P8.3: names that nothing has.
func TestNamesInStatements(t *testing.T) {
	wantFaults(t, api.ErrTypeName, in,
		"@a = 1;", "@m = r;", "@f = 1;", "@t = 1;", "@e = 1;", "@a[1] = 1;", "@i[1] = 1;", "@f[1] = 1;", "@del a[1];", "@del i[1];", "@del f[1];", "@each k in a { }", "@each k in i { }", "@each k in f { }", "@each k in k { }", "@l: each k in l { }",
		"@after 1 a();", "@after 1 f(1);", "@after 1 g();", "@after 1 m();", "@after 1 i();", "let a = @b;", "let a = @a;", "i = @a;", "m[@a] = r;", "m[1] = @a;", "del m[@a];", "if @a { }", "while @a { }", "emit @a;", "do @a;", "after @a u();", "after 1 t(@a, w);", "after 1 t(1, @a);",
		"if c { do @a; }", "if c { } else { do @a; }", "if c { } else if c { do @a; }", "while c { do @a; }", "each k in m { do @a; }", "while c { if c { while c { @a = 1; } } }", "each k in m { @kk = 1; }",
	)
	wantFault(t, inFunc("int", "return @a;"), api.ErrTypeName)
}

// P8.3: a variable is there behind its let, up to its block's end, within blocks in it, too.
func TestVariablesInView(t *testing.T) {
	wantAllTaken(t, in,
		"let a = 1; if a == 1 { a = 2; while a == 2 { a = 3; each k in m { a = k; } } }", "if c { let a = 1; a = 2; } else { let a = w; a = w; }", "if c { let a = 1; a = 2; } let a = w; a = w;", "while c { let a = 1; do a; } let a = w; emit a;", "each k in m { let a = 1; } each k in n { let a = w; emit a & k; }",
		"if c { let a = 1; } if c { let a = w; emit a; }", "if c { if c { let a = 1; } let a = w; emit a; } let a = c; while a { }", "each k in m { } let k = w; emit k;", "each k in m { } each k in n { emit k; }", "if c { each k in m { } } let k = c; if k { }", "let a = 1; let b = a; let d = a + b; a = d;", "let a = 1; each k in m { let b = a + k; if c { k = b; } }", "let f = 1; let t = 2; let e = 3; let x = f + t + e; let s = x; let any = s;",
	)
	wantFaults(t, api.ErrTypeName, in,
		"if c { let a = 1; } @a = 2;", "if c { let a = 1; } else { @a = 2; }", "if c { } else { let a = 1; } @a = 2;", "while c { let a = 1; } do @a;", "each k in m { let a = 1; } do @a;", "each k in m { } do @k;", "each k in m { } @k = 1;", "if c { let a = 1; if c { let b = a; } do @b; }", "do @a; let a = 1;", "@a = 1; let a = 1;", "let a = 1 + @a;", "while c { do @a; let a = 1; }", "while @a { let a = c; }", "if c { each k in m { } do @k; }", "let a = @b; let b = 1;",
	)
	wantFaults(t, api.ErrTypeType, in, "if c { let a = 1; } let a = w; a = @1;", "let a = w; if c { a = @1; }", "each k in m { } let k = w; k = @1;", "each k in m { k = @w; }", "each k in n { k = @1; }")
	wantFaults(t, api.ErrTypeName, asItIs, "fn f(a: int) { } fn g() { do @a; }", "fn f(a: int) { let b = a; } on e(b: int) { do b; do @a; }", "on e() { let a = 1; } on f() { do @a; }", "fn f() { let a = 1; } fn g() { if true { @a = 1; } }")
	wantAllTaken(t, asItIs, "fn f(a: int) { let b = a; } fn g(b: text) { let a = b; emit a; } on e() { let a = true; if a { let b = a; } }")
}

// P8.3: names that are taken: in this block, in one around it, by a param, by a map, by each.
func TestNamesThatAreTaken(t *testing.T) {
	wantFaults(t, api.ErrTypeTwice, in,
		"let a = 1; @let a = 2;", "let a = 1; @let a = w;", "let a = 1; if c { @let a = 2; }", "let a = 1; if c { } else { @let a = 2; }", "let a = 1; while c { @let a = 2; }", "let a = 1; each k in m { @let a = 2; }", "let a = 1; if c { if c { while c { @let a = 1; } } }", "if c { let a = 1; @let a = 2; }", "@let i = 1;", "if c { @let w = 1; }", "@let m = 1;", "if c { @let n = 1; }", "@let z = z;",
		"let k = 1; @each k in m { }", "@each m in m { }", "@each n in m { }", "@each i in m { }", "each k in m { @each k in n { } }", "each k in m { @let k = 1; }", "each k in m { if c { @let k = 1; } }", "let k = 1; while c { @each k in m { } }", "@each r in n { }", "let a = 1; @let a = a;", "let a = 1; if c { let b = 1; } let b = 1; @let b = 2;",
	)
	wantAllTaken(t, in, "let f = 1; let g = 2; let t = 3; let u = 4; let e = 5;", "each f in m { }", "each e in m { let f = e; }", "l: while c { let l = 1; }", "let l = 1; l: while c { l = 2; }", "l: each l in m { }", "let x = 1; let s = 2; let b = 3;")
	wantFaults(t, api.ErrTypeTwice, asItIs, "fn f(a: int) { @let a = 1; }", "on e(a: int) { if true { @let a = 1; } }", "map m: int -> int; fn f() { @let m = 1; }", "on e() { @let m = 1; } map m: int -> int;", "map m: int -> int; fn f(a: int) { @each a in m { } }")
}

// P8.3: labels are taken within their loop, and free behind it; loops without one take none.
func TestLabels(t *testing.T) {
	wantFaults(t, api.ErrTypeTwice, in,
		"l: while c { @l: while c { } }", "l: while c { @l: each k in m { } }", "l: each k in m { @l: while c { } }", "l: each k in m { @l: each j in m { } }", "l: while c { if c { while c { @l: while c { } } } }", "l: while c { a: while c { @l: while c { } } }", "a: while c { l: while c { @a: while c { } } }", "l: while c { if c { } else { @l: while c { } } }",
		"l: while c { @l: while nope { } }", "l: while c { @l: while 1 { } }", "l: while c { @l: each k in nope { } }", "l: while c { @l: each m in m { } }", "l: while c { @l: while c { do nope; } }",
	)
	wantAllTaken(t, in,
		"l: while c { } l: while c { }", "l: while c { } l: each k in m { } l: while c { }", "while c { while c { while c { } } }", "each k in m { each j in m { } }", "l: while c { while c { } }", "while c { l: while c { } l: while c { } }", "if c { l: while c { } } else { l: while c { } }", "a: while c { b: while c { } b: each k in m { } } b: while c { a: while c { } }", "m: while c { f: while c { t: while c { i: while c { } } } }",
	)
	wantTaken(t, "fn f() { l: while true { break l; } } fn g() { l: while true { } } on e() { l: while true { } }")
}

// P8.3: break and continue, without a loop, with a label of none around.
func TestBreakAndContinue(t *testing.T) {
	for _, word := range []string{"break", "continue"} {
		wrap := func(s string) string { return in(strings.ReplaceAll(s, "go", word)) }
		wantFaults(t, api.ErrTypeLoop, wrap,
			"@go;", "@go l;", "if c { @go; }", "if c { } else { @go; }", "while c { } @go;", "each k in m { } @go;", "l: while c { } @go l;", "l: while c { } @go;", "while c { @go l; }", "each k in m { @go k; }", "each k in m { @go m; }", "l: while c { @go ll; }", "l: while c { } while c { @go l; }", "while c { l: while c { } @go l; }", "while c { l: while c { } go; @go l; }", "l: while c { if c { @go a; } }", "if c { while c { } @go; }", "a: while c { b: while c { go a; go b; } go a; @go b; }", "let l = 1; while c { @go l; }",
		)
		wantAllTaken(t, wrap,
			"while c { go; }", "each k in m { go; }", "while c { if c { go; } else { go; } }", "l: while c { go; go l; }", "l: each k in m { go l; }", "l: while c { while c { go l; go; } go l; }", "a: while c { b: each k in m { while c { go a; go b; go; } } }", "while c { l: while c { go; } go; }", "l: while c { if c { each k in m { if c { go l; } } } }",
		)
	}
	wantFaults(t, api.ErrTypeLoop, asItIs, "fn f() { l: while true { do g(); } } fn g() { @break; }", "fn f() { l: while true { } } fn g() { while true { @continue l; } }", "on e() { @break; }")
}

// P8.3: return with a value and without, where there is a result and where there is none.
func TestReturns(t *testing.T) {
	none := func(s string) string { return head + "fn e(c: bool) { " + s + " }" }
	result := func(s string) string { return inFunc("int", s) }
	for _, wrap := range []func(string) string{in, none} {
		wantAllTaken(t, wrap, "return;", "if c { return; }", "while c { return; } return;", "return; return;", "")
		wantFaults(t, api.ErrTypeReturn, wrap, "@return 1;", "@return g();", "@return nope;", "@return f();", "@return 1 + \"\";", "if c { @return c; }", "while c { @return c; }", "return; @return 1;", "return; @return nope; return 1;")
	}
	wantAllTaken(t, result, "return 1;", "return i;", "return len(w);", "return n[w]; return 2;")
	wantFaults(t, api.ErrTypeReturn, result, "@return;", "if c { @return; } return 1;", "while c { @return; } return 1;", "return 1; @return;", "if c { return 1; } else { @return; }")
	wantFaults(t, api.ErrTypeType, result, "return @w;", "return @g();", "return @r;", "return @c; return;", "if c { return 1; } else { return @w; }", "return 1; return @w;", "return 1 + @w;", "while c { return @z; }")
	wantFaults(t, api.ErrTypeName, result, "return @nope;", "return f(@nope) + 1;")
}

// P8.3: bodies that end, and that don't.
func TestBodiesThatEnd(t *testing.T) {
	for _, body := range []string{
		"return 1;", "i = 1; return i;", "return 1; return 2;", "if c { return 1; } return 2;", "if c { return 1; } else { return 2; }", "if c { } return 1;", "if c { i = 1; return 1; } else { i = 2; return 2; }",
		"if c { return 1; } else if c { return 2; } else { return 3; }", "if c { if c { return 1; } else { return 2; } } else { return 3; }", "if c { return 1; } else { if c { return 2; } else { if c { return 3; } else { return 4; } } }", "while c { } return 1;", "each k in m { return k; } return 1;", "while true { break; } if c { return 1; } else { return 2; }",
	} {
		wantTaken(t, "fn f(i: int, c: bool) -> int { "+body+" } map m: int -> int;")
	}
	for _, body := range []string{
		"", "i = 1;", "do f(1, c);", "return 1; i = 1;", "return 1; do i;", "if c { return 1; }", "if c { return 1; } else { }", "if c { } else { return 1; }", "if c { } else { }", "if c { return 1; } else { i = 1; }", "if c { return 1; i = 1; } else { return 2; }", "if c { return 1; } else { return 2; i = 1; }", "if c { return 1; } else { return 2; } i = 1;",
		"if c { return 1; } else if c { return 2; }", "if c { if c { return 1; } } else { return 3; }", "if c { return 1; } else if c { return 2; } else if c { return 3; } else { }", "while true { return 1; }", "while true { }", "each k in m { return k; }", "if c { while true { return 1; } } else { return 2; }", "return 1; while true { }", "return 1; if c { }", "let a = 1;", "emit \"\";", "if c { return 1; } else { while c { return 2; } }",
	} {
		wantFault(t, "@fn f(i: int, c: bool) -> int { "+body+" } map m: int -> int;", api.ErrTypeReturn)
		wantTaken(t, "fn f(i: int, c: bool) { "+strings.NewReplacer("return 1", "return", "return 2", "return", "return 3", "return", "return k", "return").Replace(body)+" } map m: int -> int;")
	}
	wantFaults(t, api.ErrTypeName, asItIs, "fn f() -> int { do @nope; }", "fn f() -> int { if true { return @nope; } }")
	wantFaults(t, api.ErrTypeReturn, asItIs, "fn f() -> int { @return; }", "fn f() -> int { if true { @return; } else { } }", "fn a() -> int { return 1; } @fn f() -> int { do a(); } fn b() -> int { do nope; }")
}

// P8.3: after: its handler, how many arguments, the delay, each argument.
func TestAfter(t *testing.T) {
	wantFaults(t, api.ErrTypeCount, in, "@after 1 t();", "@after 1 t(1);", "@after 1 t(1, w, 1);", "@after 1 u(1);", "@after 1 u(1, 2);", "@after nope t(1);", "@after w t(1);", "@after 1 u(nope);", "@after 1 t(nope);", "@after 1 t(w);", "@after 1 e(1, w, c, r);", "@after 1 e(1, w, c, r, z, 1);")
	wantFaults(t, api.ErrTypeName, in, "@after nope v();", "@after w v(1, 2);", "@after nope v(nope);", "after @nope t(w, 1);", "after 1 t(@nope, 1);", "after 1 t(1, @nope);", "after 1 t(@nope, nope);")
	wantFaults(t, api.ErrTypeType, in, "after @w t(w, 1);", "after @w t(nope, 1);", "after 1 t(@w, 1);", "after 1 t(@w, nope);", "after 1 t(1, @1);", "after @g() u();", "after 1 t(@g(), w);", "after 1 + @w t(1, w);")
	params := make([]string, api.MaxItems)
	for i := range params {
		params[i] = string(rune('a'+i)) + ": int"
	}
	many := "on k(" + strings.Join(params, ", ") + ") { } "
	for count := range 13 {
		call := "after 5 k(" + strings.TrimSuffix(strings.Repeat("5, ", count), ", ") + ");"
		if count == 12 {
			wantTaken(t, many+in(call))
		} else {
			wantFault(t, many+in("@"+call), api.ErrTypeCount)
		}
	}
}

// P8.1, P8.3: of two faults the one that stands first.
func TestOrderWithinBodies(t *testing.T) {
	wantFaults(t, api.ErrTypeName, in, "do @a; do b;", "@a = nope;", "@a = w + 1;", "@a[nope] = nope;", "@a[w + 1] = 1;", "@del a[nope];", "@each m in a { }", "@each k in a { do nope; }", "if @a { do nope; }", "while @a { do nope; }", "if c { do @a; } else { do b; }", "if c { } else { do @a; } do b;", "m[@a] = b;", "m[1] = @a;", "let i = @a;", "let m = f(@a);", "emit @a & 1;", "each k in m { do @a; } do nope;")
	wantFaults(t, api.ErrTypeType, in, "let i = @g();", "let m = @g();", "let m = 1 + @w;", "m[@w] = nope;", "m[@w] = 1;", "m[@g()] = f();", "m[1] = @1; do nope;", "if @1 { do nope; }", "if @1 { } else { do nope; }", "while @1 { do nope; }", "while @i { break a; }", "emit @1; do nope;", "i = @w; do nope;", "del m[@w]; do nope;", "if c { emit @1; } else { do nope; }")
	wantFaults(t, api.ErrTypeTwice, in, "@let i = 1; do nope;", "@each m in m { do nope; }", "@each i in m { do nope; }", "l: while c { @l: each i in nope { do nope; } }")
	wantFaults(t, api.ErrTypeLoop, in, "@break; do nope;", "@continue l; do nope;", "if c { @break; } else { do nope; }")
	wantFaults(t, api.ErrTypeReturn, in, "@return nope; do nope;", "if c { @return 1 + w; }")
	wantFaults(t, api.ErrTypeCount, in, "let m = @f();", "let i = @f(nope, nope);", "emit @f(); do nope;")
}
