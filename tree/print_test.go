package tree_test

import (
	"math"
	"slices"
	"strconv"
	"strings"
	"testing"

	"windlass/api"
	"windlass/tree"
)

// wantPrint: what is printed of a tree, how deep it is, how many statements and expressions it has.
func wantPrint(t *testing.T, x api.Tree, want string, depth, size int) {
	t.Helper()
	s, err := tree.Print(x)
	if s != want || err != api.OK || tree.Depth(x) != depth || tree.Size(x) != size {
		t.Errorf("%s: %d, Depth %d, Size %d, want %s, %d, %d", s, err, tree.Depth(x), tree.Size(x), want, depth, size)
	}
}

// wantExprPrint: by itself, and in a statement of a handler, which is one deep and one statement.
func wantExprPrint(t *testing.T, e api.Expr, want string, depth, size int) {
	t.Helper()
	if s, err := tree.Expr(e); s != want || err != api.OK {
		t.Errorf("%s: %d, want %s", s, err, want)
	}
	wantPrint(t, within(e), "on e() { do "+want+"; }\n", 1+depth, 1+size)
}

// P6.3: expressions of each kind.
func TestPrintExprs(t *testing.T) {
	a, b := variable("a"), variable("b")
	for _, row := range []struct {
		e     api.Expr
		want  string
		depth int
		size  int
	}{
		{integer(0), "0", 0, 1}, {integer(7), "7", 0, 1}, {integer(-7), "-7", 0, 1},
		{integer(math.MaxInt64), "9223372036854775807", 0, 1}, {integer(math.MinInt64), "-9223372036854775808", 0, 1},
		{text(""), `""`, 0, 1}, {text("a"), `"a"`, 0, 1}, {text(`"`), `""""`, 0, 1}, {text("([{not - "), `"([{not - "`, 0, 1}, {text("\n\xff"), "\"\n\xff\"", 0, 1},
		{truth(0), "false", 0, 1}, {truth(1), "true", 0, 1}, {a, "a", 0, 1}, {variable("_x9"), "_x9", 0, 1},
		{unary(api.ONeg, a), "- a", 1, 2}, {unary(api.ONot, a), "not a", 1, 2}, {unary(api.OLen, a), "len(a)", 1, 2}, {unary(api.OStr, a), "str(a)", 1, 2},
		{named(api.EField, "f", a), "a.f", 0, 2}, {named(api.EField, "g", named(api.EField, "f", a)), "a.f.g", 0, 3},
		{record("P", []string{"x"}, a), "P{x: a}", 1, 2}, {record("P", []string{"x", "s"}, a, b), "P{x: a, s: b}", 1, 3}, {record("P", []string{"x", "x", "y"}, a, b, a), "P{x: a, x: b, y: a}", 1, 4},
		{named(api.EGet, "m", a), "m[a]", 1, 2}, {named(api.EHas, "m", a), "has m[a]", 1, 2}, {named(api.EAsk, "p", a), "ask p(a)", 1, 2},
		{named(api.ECall, "f"), "f()", 1, 1}, {named(api.ECall, "f", a), "f(a)", 1, 2}, {named(api.ECall, "f", a, b), "f(a, b)", 1, 3},
		{named(api.ECall, "f", slices.Repeat([]api.Expr{a}, 12)...), "f(a, a, a, a, a, a, a, a, a, a, a, a)", 1, 13},
		// The chapter's examples.
		{unary(api.ONeg, integer(1)), "- (1)", 2, 2}, {integer(-1), "-1", 0, 1}, {unary(api.ONot, binary(api.OEq, a, b)), "not (a == b)", 2, 4},
		{unary(api.ONeg, named(api.EField, "f", integer(1))), "- 1.f", 1, 3},
		{binary(api.OSub, binary(api.OSub, a, b), binary(api.OSub, a, b)), "(a - b) - (a - b)", 1, 7},
		{named(api.EGet, "m", named(api.ECall, "f", record("P", []string{"x"}, unary(api.OLen, unary(api.ONot, unary(api.ONeg, integer(-1))))))), "m[f(P{x: len(not (- (-1)))})]", 8, 7},
	} {
		wantExprPrint(t, row.e, row.want, row.depth, row.size)
	}
}

// P6.3: each operator has its sign.
func TestPrintOperators(t *testing.T) {
	ops := map[int]string{
		api.OAdd: "+", api.OSub: "-", api.OMul: "*", api.OWAdd: "+%", api.OWSub: "-%", api.OWMul: "*%", api.ODiv: "/", api.OMod: "%", api.OCat: "&",
		api.OEq: "==", api.ONe: "!=", api.OLt: "<", api.OLe: "<=", api.OGt: ">", api.OGe: ">=", api.OAnd: "and", api.OOr: "or",
	}
	if len(ops) != 17 {
		t.Errorf("%d operators", len(ops))
	}
	for op, sign := range ops {
		wantExprPrint(t, binary(op, variable("a"), integer(1)), "a "+sign+" 1", 0, 3)
		for other, inner := range ops {
			wantExprPrint(t, binary(op, binary(other, integer(1), integer(2)), integer(3)), "(1 "+inner+" 2) "+sign+" 3", 1, 5)
			wantExprPrint(t, binary(op, integer(1), binary(other, integer(2), integer(3))), "1 "+sign+" (2 "+inner+" 3)", 1, 5)
		}
	}
}

// What an argument is to the rule of brackets.
const (
	plain   = iota
	loose   // an EBinary, ONeg, ONot, an integer below 0
	natural // an integer from 0 on
	worded  // an EHas, an EAsk
)

type innerRow struct {
	e     api.Expr
	want  string
	depth int
	size  int
	sort  int
}

// inners: expressions of each kind, and integers of all sorts.
func inners() []innerRow {
	a, b := variable("a"), variable("b")
	rows := []innerRow{
		{text("t"), `"t"`, 0, 1, plain}, {truth(1), "true", 0, 1, plain}, {truth(0), "false", 0, 1, plain}, {a, "a", 0, 1, plain},
		{unary(api.ONeg, a), "- a", 1, 2, loose}, {unary(api.ONot, a), "not a", 1, 2, loose}, {unary(api.OLen, a), "len(a)", 1, 2, plain}, {unary(api.OStr, a), "str(a)", 1, 2, plain},
		{unary(api.ONeg, integer(1)), "- (1)", 2, 2, loose}, {unary(api.ONot, integer(1)), "not 1", 1, 2, loose},
		{binary(api.OSub, a, b), "a - b", 0, 3, loose}, {binary(api.OOr, a, b), "a or b", 0, 3, loose}, {binary(api.OCat, a, integer(-1)), "a & (-1)", 1, 3, loose},
		{named(api.EField, "f", a), "a.f", 0, 2, plain}, {record("P", []string{"x"}, a), "P{x: a}", 1, 2, plain}, {named(api.EGet, "m", a), "m[a]", 1, 2, plain},
		{named(api.EHas, "m", a), "has m[a]", 1, 2, worded}, {named(api.EAsk, "p", a), "ask p(a)", 1, 2, worded},
		{named(api.ECall, "g"), "g()", 1, 1, plain}, {named(api.ECall, "g", a, b), "g(a, b)", 1, 3, plain},
	}
	for _, n := range []int64{0, 1, 10, math.MaxInt64} {
		rows = append(rows, innerRow{integer(n), strconv.FormatInt(n, 10), 0, 1, natural})
	}
	for _, n := range []int64{-1, -10, -math.MaxInt64, math.MinInt64} {
		rows = append(rows, innerRow{integer(n), strconv.FormatInt(n, 10), 0, 1, loose})
	}
	return rows
}

// P6.3: each kind within each other one: in brackets where they must be, and nowhere else.
func TestPrintBrackets(t *testing.T) {
	a := variable("a")
	for _, outer := range []struct {
		make       func(e api.Expr) api.Expr
		want       string // @: the argument
		more, size int
		brackets   []int
	}{
		{func(e api.Expr) api.Expr { return unary(api.ONeg, e) }, "- @", 1, 1, []int{loose, natural}},
		{func(e api.Expr) api.Expr { return unary(api.ONot, e) }, "not @", 1, 1, []int{loose}},
		{func(e api.Expr) api.Expr { return unary(api.OLen, e) }, "len(@)", 1, 1, nil},
		{func(e api.Expr) api.Expr { return unary(api.OStr, e) }, "str(@)", 1, 1, nil},
		{func(e api.Expr) api.Expr { return binary(api.OSub, e, a) }, "@ - a", 0, 2, []int{loose}},
		{func(e api.Expr) api.Expr { return binary(api.OSub, a, e) }, "a - @", 0, 2, []int{loose}},
		{func(e api.Expr) api.Expr { return binary(api.OAnd, e, a) }, "@ and a", 0, 2, []int{loose}},
		{func(e api.Expr) api.Expr { return binary(api.OLt, a, e) }, "a < @", 0, 2, []int{loose}},
		{func(e api.Expr) api.Expr { return named(api.EField, "f", e) }, "@.f", 0, 1, []int{loose, worded}},
		{func(e api.Expr) api.Expr { return record("P", []string{"x"}, e) }, "P{x: @}", 1, 1, nil},
		{func(e api.Expr) api.Expr { return record("P", []string{"x", "y"}, a, e) }, "P{x: a, y: @}", 1, 2, nil},
		{func(e api.Expr) api.Expr { return named(api.EGet, "m", e) }, "m[@]", 1, 1, nil},
		{func(e api.Expr) api.Expr { return named(api.EHas, "m", e) }, "has m[@]", 1, 1, nil},
		{func(e api.Expr) api.Expr { return named(api.EAsk, "p", e) }, "ask p(@)", 1, 1, nil},
		{func(e api.Expr) api.Expr { return named(api.ECall, "g", e) }, "g(@)", 1, 1, nil},
		{func(e api.Expr) api.Expr { return named(api.ECall, "g", a, e, a) }, "g(a, @, a)", 1, 3, nil},
	} {
		for _, inner := range inners() {
			want, depth := inner.want, inner.depth
			if slices.Contains(outer.brackets, inner.sort) {
				want, depth = "("+want+")", depth+1
			}
			wantExprPrint(t, outer.make(inner.e), strings.Replace(outer.want, "@", want, 1), outer.more+depth, outer.size+inner.size)
		}
	}
}

// P6.3: expressions stand in statements without brackets.
func TestPrintExprsInStmts(t *testing.T) {
	a := variable("a")
	for _, outer := range []struct {
		make       func(e api.Expr) api.Stmt
		want       string // @: the expression
		more, size int
	}{
		{func(e api.Expr) api.Stmt { return stmt(api.SLet, "x", e) }, "let x = @;", 0, 1}, {func(e api.Expr) api.Stmt { return stmt(api.SSet, "x", e) }, "x = @;", 0, 1},
		{func(e api.Expr) api.Stmt { return stmt(api.SPut, "m", e, a) }, "m[@] = a;", 1, 2}, {func(e api.Expr) api.Stmt { return stmt(api.SPut, "m", a, e) }, "m[a] = @;", 0, 2},
		{func(e api.Expr) api.Stmt { return stmt(api.SDel, "m", e) }, "del m[@];", 1, 1}, {func(e api.Expr) api.Stmt { return choice(e, nil, nil) }, "if @ { }", 0, 1},
		{func(e api.Expr) api.Stmt { return loop("", e) }, "while @ { }", 0, 1}, {func(e api.Expr) api.Stmt { return loop("l", e) }, "l: while @ { }", 0, 1},
		{func(e api.Expr) api.Stmt { return stmt(api.SReturn, "", e) }, "return @;", 0, 1}, {func(e api.Expr) api.Stmt { return stmt(api.SEmit, "", e) }, "emit @;", 0, 1},
		{func(e api.Expr) api.Stmt { return stmt(api.SDo, "", e) }, "do @;", 0, 1}, {func(e api.Expr) api.Stmt { return stmt(api.SAfter, "e", e) }, "after @ e();", 0, 1},
		{func(e api.Expr) api.Stmt { return stmt(api.SAfter, "e", a, e) }, "after a e(@);", 1, 2}, {func(e api.Expr) api.Stmt { return stmt(api.SAfter, "e", a, a, e) }, "after a e(a, @);", 1, 3},
	} {
		for _, inner := range inners() {
			body := strings.Replace(outer.want, "@", inner.want, 1)
			depth := 1 + max(outer.more+inner.depth, strings.Count(outer.want, "{"), strings.Count(outer.want, "("), strings.Count(outer.want, "["))
			wantPrint(t, handler(outer.make(inner.e)), "on e() { "+body+" }\n", depth, outer.size+inner.size)
		}
	}
}

// P6.3: statements of each kind, blocks within blocks.
func TestPrintStmts(t *testing.T) {
	x := variable("x")
	leave := stmt(api.SReturn, "")
	body := []api.Stmt{leave}
	for _, row := range []struct {
		s     []api.Stmt
		want  string
		depth int
		size  int
	}{
		{nil, "", 0, 0}, {body, "return;", 0, 1}, {[]api.Stmt{leave, leave}, "return; return;", 0, 2},
		{[]api.Stmt{stmt(api.SBreak, "")}, "break;", 0, 1}, {[]api.Stmt{stmt(api.SBreak, "l")}, "break l;", 0, 1},
		{[]api.Stmt{stmt(api.SContinue, "")}, "continue;", 0, 1}, {[]api.Stmt{stmt(api.SContinue, "l")}, "continue l;", 0, 1},
		{[]api.Stmt{choice(x, nil, nil)}, "if x { }", 1, 2}, {[]api.Stmt{choice(x, body, nil)}, "if x { return; }", 1, 3}, {[]api.Stmt{choice(x, body, []api.Stmt{})}, "if x { return; }", 1, 3},
		{[]api.Stmt{choice(x, nil, body)}, "if x { } else { return; }", 1, 3}, {[]api.Stmt{choice(x, body, body)}, "if x { return; } else { return; }", 1, 4},
		{[]api.Stmt{choice(x, nil, []api.Stmt{choice(x, nil, nil)})}, "if x { } else { if x { } }", 2, 4},
		{[]api.Stmt{choice(x, nil, []api.Stmt{choice(x, nil, []api.Stmt{choice(x, body, body)})})}, "if x { } else { if x { } else { if x { return; } else { return; } } }", 3, 8},
		{[]api.Stmt{choice(x, []api.Stmt{choice(x, nil, body)}, nil)}, "if x { if x { } else { return; } }", 2, 5},
		{[]api.Stmt{choice(x, []api.Stmt{choice(x, nil, nil)}, body)}, "if x { if x { } } else { return; }", 2, 5},
		{[]api.Stmt{loop("", x)}, "while x { }", 1, 2}, {[]api.Stmt{loop("l", x, leave, leave)}, "l: while x { return; return; }", 1, 4},
		{[]api.Stmt{each("", "k", "m")}, "each k in m { }", 1, 1}, {[]api.Stmt{each("l", "k", "m", leave)}, "l: each k in m { return; }", 1, 2},
		{[]api.Stmt{loop("l", x, each("k", "k", "m", loop("", x)))}, "l: while x { k: each k in m { while x { } } }", 3, 5},
		{[]api.Stmt{stmt(api.SAfter, "ev", x)}, "after x ev();", 1, 2}, {[]api.Stmt{stmt(api.SAfter, "ev", x, x, x)}, "after x ev(x, x);", 1, 4},
		{[]api.Stmt{loop("", named(api.EGet, "m", unary(api.ONot, x)), leave)}, "while m[not x] { return; }", 2, 5},
	} {
		block := "{ }"
		if row.want != "" {
			block = "{ " + row.want + " }"
		}
		wantPrint(t, handler(row.s...), "on e() "+block+"\n", 1+row.depth, row.size)
		wantPrint(t, api.Tree{Funcs: []api.Decl{{Name: "f", Body: row.s}}}, "fn f() "+block+"\n", 1+row.depth, row.size)
	}
}

// P6.3: declarations of each sort, and their order.
func TestPrintDecls(t *testing.T) {
	params := []api.Param{{Name: "a", Type: "int"}, {Name: "b", Type: "P"}, {Name: "c", Type: "text"}, {Name: "d", Type: "bool"}}
	fields := []api.Param{{Name: "x", Type: "int"}, {Name: "s", Type: "text"}, {Name: "t", Type: "bool"}}
	leave := []api.Stmt{stmt(api.SReturn, "")}
	rows := []struct {
		sort  string
		d     api.Decl
		want  string
		depth int
		size  int
	}{
		{"record", api.Decl{Name: "P", Params: fields[:1]}, "record P { x: int }\n", 1, 0},
		{"record", api.Decl{Name: "P", Params: fields[:2]}, "record P { x: int, s: text }\n", 1, 0},
		{"record", api.Decl{Name: "Q", Params: fields}, "record Q { x: int, s: text, t: bool }\n", 1, 0},
		{"map", api.Decl{Name: "m", Key: "int", Value: "text"}, "map m: int -> text;\n", 0, 0},
		{"map", api.Decl{Name: "n", Key: "text", Value: "P"}, "map n: text -> P;\n", 0, 0},
		{"fn", api.Decl{Name: "f"}, "fn f() { }\n", 1, 0},
		{"fn", api.Decl{Name: "f", Result: "int"}, "fn f() -> int { }\n", 1, 0},
		{"fn", api.Decl{Name: "f", Params: params[:2], Result: "bool", Body: leave}, "fn f(a: int, b: P) -> bool { return; }\n", 1, 1},
		{"fn", api.Decl{Name: "f", Params: params, Body: leave}, "fn f(a: int, b: P, c: text, d: bool) { return; }\n", 1, 1},
		{"fn", api.Decl{Name: "f", Params: params[:1], Result: "P"}, "fn f(a: int) -> P { }\n", 1, 0},
		{"on", api.Decl{Name: "e"}, "on e() { }\n", 1, 0},
		{"on", api.Decl{Name: "e", Params: params[:1]}, "on e(a: int) { }\n", 1, 0},
		{"on", api.Decl{Name: "e", Params: params[2:], Body: append(leave, leave...)}, "on e(c: text, d: bool) { return; return; }\n", 1, 2},
	}
	var whole api.Tree
	all := ""
	for _, row := range rows {
		wantPrint(t, declared(row.sort, row.d), row.want, row.depth, row.size)
		wantPrint(t, declared(row.sort, row.d, row.d), row.want+row.want, row.depth, 2*row.size)
		all += row.want
	}
	for _, row := range slices.Backward(rows) {
		switch row.sort {
		case "record":
			whole.Records = slices.Insert(whole.Records, 0, row.d)
		case "map":
			whole.Maps = slices.Insert(whole.Maps, 0, row.d)
		case "fn":
			whole.Funcs = slices.Insert(whole.Funcs, 0, row.d)
		default:
			whole.Events = slices.Insert(whole.Events, 0, row.d)
		}
	}
	wantPrint(t, whole, all, 1, 4)
	wantPrint(t, api.Tree{}, "", 0, 0)
}

// P6.3: the deepest place may be in any declaration.
func TestDepthOfAny(t *testing.T) {
	deep := []api.Stmt{stmt(api.SDo, "", unary(api.ONot, unary(api.ONot, variable("x"))))}
	for i := range 16 {
		list := slices.Repeat([]api.Decl{{Name: "f"}}, 16)
		list[i].Body = deep
		for _, x := range []api.Tree{{Funcs: list}, {Events: list}, {Funcs: list, Events: slices.Repeat([]api.Decl{{Name: "f"}}, 3)}} {
			if d := tree.Depth(x); d != 4 {
				t.Errorf("declaration %d: Depth %d", i, d)
			}
		}
	}
}

// P6.3: At is not to be seen in a print.
func TestPrintWithoutAt(t *testing.T) {
	x := sampleTree()
	s, _ := tree.Print(x)
	bare, _ := tree.Print(spread(x, zero))
	if s != bare || s == "" || tree.Depth(x) != tree.Depth(spread(x, zero)) || tree.Size(x) != tree.Size(spread(x, zero)) {
		t.Errorf("%s, without At %s", s, bare)
	}
}
