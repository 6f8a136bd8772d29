package tree_test

import (
	"math"
	"math/rand"
	"reflect"
	"slices"
	"strings"
	"testing"

	"windlass/api"
	"windlass/tree"
)

func integer(n int64) api.Expr { return api.Expr{Kind: api.EInt, Int: n} }

func text(s string) api.Expr { return api.Expr{Kind: api.EText, Text: s} }

func truth(n int64) api.Expr { return api.Expr{Kind: api.EBool, Int: n} }

func variable(name string) api.Expr { return api.Expr{Kind: api.EVar, Name: name} }

func unary(op int, args ...api.Expr) api.Expr {
	return api.Expr{Kind: api.EUnary, Op: op, Args: args}
}

func binary(op int, args ...api.Expr) api.Expr {
	return api.Expr{Kind: api.EBinary, Op: op, Args: args}
}

// named: of the kinds that have a name and arguments alone.
func named(kind int, name string, args ...api.Expr) api.Expr {
	return api.Expr{Kind: kind, Name: name, Args: args}
}

func record(name string, names []string, args ...api.Expr) api.Expr {
	return api.Expr{Kind: api.EMake, Name: name, Names: names, Args: args}
}

func stmt(kind int, name string, args ...api.Expr) api.Stmt {
	return api.Stmt{Kind: kind, Name: name, Args: args}
}

func loop(label string, test api.Expr, body ...api.Stmt) api.Stmt {
	return api.Stmt{Kind: api.SWhile, Label: label, Args: []api.Expr{test}, Body: body}
}

func each(label, key, name string, body ...api.Stmt) api.Stmt {
	return api.Stmt{Kind: api.SEach, Label: label, Var: key, Name: name, Body: body}
}

func choice(test api.Expr, body, other []api.Stmt) api.Stmt {
	return api.Stmt{Kind: api.SIf, Args: []api.Expr{test}, Body: body, Else: other}
}

// handler: a tree with one handler alone.
func handler(body ...api.Stmt) api.Tree {
	return api.Tree{Events: []api.Decl{{Name: "e", Body: body}}}
}

// within: a tree in which the expression is told by itself.
func within(e api.Expr) api.Tree { return handler(stmt(api.SDo, "", e)) }

// sampleExprs: of each kind, as long and as great as may be, too.
func sampleExprs() []api.Expr {
	names := strings.Split("abcdefghijkl", "")
	many := slices.Repeat([]api.Expr{variable("x")}, api.MaxItems)
	return []api.Expr{
		integer(0), integer(1), integer(-1), integer(math.MaxInt64), integer(math.MinInt64),
		text(""), text(`say "so"`), text("(["), text(strings.Repeat(`"`, api.MaxText)), text("\x00\xff\n#"), truth(0), truth(1), variable("x"), variable("_"),
		unary(api.ONeg, variable("x")), unary(api.ONot, variable("x")), unary(api.OLen, variable("x")), unary(api.OStr, variable("x")),
		binary(api.OAdd, variable("x"), integer(2)), binary(api.OSub, variable("x"), integer(2)), binary(api.OOr, variable("x"), truth(1)),
		named(api.EField, "f", variable("x")), record("P", []string{"x"}, integer(1)), record("P", names, many...),
		named(api.EGet, "m", integer(1)), named(api.EHas, "m", integer(1)), named(api.ECall, "g"), named(api.ECall, "g", integer(1)), named(api.ECall, "g", many...), named(api.EAsk, "p", text("q")),
	}
}

// sampleStmts: of each kind.
func sampleStmts() []api.Stmt {
	x := variable("x")
	leave := []api.Stmt{stmt(api.SReturn, "")}
	return []api.Stmt{
		stmt(api.SLet, "x", x), stmt(api.SSet, "x", x), stmt(api.SPut, "m", x, x), stmt(api.SDel, "m", x),
		choice(x, nil, nil), choice(x, leave, nil), choice(x, nil, leave), choice(x, leave, leave), choice(x, nil, []api.Stmt{choice(x, leave, leave)}),
		loop("", x), loop("l", x, leave...), each("", "k", "m"), each("l", "k", "m", leave...),
		stmt(api.SBreak, ""), stmt(api.SBreak, "l"), stmt(api.SContinue, ""), stmt(api.SContinue, "l"), stmt(api.SReturn, ""), stmt(api.SReturn, "", x),
		stmt(api.SEmit, "", x), stmt(api.SDo, "", x), stmt(api.SAfter, "e", x), stmt(api.SAfter, "e", slices.Repeat([]api.Expr{x}, api.MaxItems+1)...),
	}
}

// sampleTree: with declarations, statements and expressions of all sorts, lists with spare room, At everywhere.
func sampleTree() api.Tree {
	body := sampleStmts()
	for _, e := range sampleExprs() {
		body = append(body, stmt(api.SEmit, "", e))
	}
	params := []api.Param{{Name: "a", Type: "int"}, {Name: "b", Type: "text"}, {Name: "c", Type: "bool"}, {Name: "d", Type: "P"}}
	t := api.Tree{
		Records: []api.Decl{{Name: "P", Params: params[:3]}, {Name: "Q", Params: params[1:2]}},
		Maps:    []api.Decl{{Name: "m", Key: "int", Value: "P"}, {Name: "n", Key: "text", Value: "bool"}},
		Funcs:   []api.Decl{{Name: "f", Params: params, Result: "P", Body: body}, {Name: "g"}},
		Events:  []api.Decl{{Name: "e", Params: params, Body: body}, {Name: "h"}},
	}
	at := 0
	return spread(t, func(int) int {
		at += 3
		return at
	})
}

// spread: a copy in memory of its own, with spare room behind each list (which is never nil), and At changed everywhere.
func spread(t api.Tree, at func(int) int) api.Tree {
	return api.Tree{Records: spreadDecls(t.Records, at), Maps: spreadDecls(t.Maps, at), Funcs: spreadDecls(t.Funcs, at), Events: spreadDecls(t.Events, at)}
}

func keep(at int) int { return at }

func zero(int) int { return 0 }

func roomy[T any](list []T) []T { return append(make([]T, 0, len(list)+2), list...) }

func spreadDecls(list []api.Decl, at func(int) int) []api.Decl {
	list = roomy(list)
	for i := range list {
		d := &list[i]
		d.At, d.Params, d.Body = at(d.At), roomy(d.Params), spreadStmts(d.Body, at)
	}
	return list
}

func spreadStmts(list []api.Stmt, at func(int) int) []api.Stmt {
	list = roomy(list)
	for i := range list {
		s := &list[i]
		s.At, s.Args, s.Body, s.Else = at(s.At), spreadExprs(s.Args, at), spreadStmts(s.Body, at), spreadStmts(s.Else, at)
	}
	return list
}

func spreadExprs(list []api.Expr, at func(int) int) []api.Expr {
	list = roomy(list)
	for i := range list {
		e := &list[i]
		e.At, e.Names, e.Args = at(e.At), roomy(e.Names), spreadExprs(e.Args, at)
	}
	return list
}

// equal: At of each, too; nil and empty are one.
func equal(a, b api.Tree) bool { return reflect.DeepEqual(spread(a, keep), spread(b, keep)) }

// equalBare: but for At.
func equalBare(a, b api.Tree) bool { return reflect.DeepEqual(spread(a, zero), spread(b, zero)) }

// chooser makes trees that may be, by chance.
type chooser struct{ *rand.Rand }

func (c chooser) pick(texts ...string) string { return texts[c.Intn(len(texts))] }

func (c chooser) small() string {
	return c.pick("a", "b", "x", "_", "_1", "whiles", "aZ9", strings.Repeat("n", 20))
}

func (c chooser) great() string { return c.pick("P", "Q", "While", "A_9", strings.Repeat("N", 20)) }

func (c chooser) kind() string { return c.pick("int", "text", "bool", c.great()) }

func (c chooser) params(least int, kind func() string) []api.Param {
	var params []api.Param
	for range least + c.Intn(4) {
		params = append(params, api.Param{Name: c.small(), Type: kind()})
	}
	return params
}

func (c chooser) exprs(count, deep int) []api.Expr {
	var list []api.Expr
	for range count {
		list = append(list, c.expr(deep-1))
	}
	return list
}

func (c chooser) expr(deep int) api.Expr {
	if deep <= 0 {
		samples := []api.Expr{integer(c.Int63n(20) - 10), integer(math.MinInt64), text(c.pick("", `"`, `a"b`, "not (", "\xff#")), truth(c.Int63n(2)), variable(c.small()), named(api.ECall, c.small())}
		return samples[c.Intn(len(samples))]
	}
	switch kind := api.EUnary + c.Intn(8); kind {
	case api.EUnary:
		return unary(api.ONeg+c.Intn(4), c.exprs(1, deep)...)
	case api.EBinary:
		return binary(api.OAdd+c.Intn(17), c.exprs(2, deep)...)
	case api.EMake:
		names := []string{c.small(), c.small(), c.small()}[:1+c.Intn(3)]
		return record(c.great(), names, c.exprs(len(names), deep)...)
	case api.ECall:
		return named(kind, c.small(), c.exprs(c.Intn(4), deep)...)
	default:
		return named(kind, c.small(), c.exprs(1, deep)...)
	}
}

func (c chooser) stmts(deep int) []api.Stmt {
	var list []api.Stmt
	for range c.Intn(deep + 2) {
		list = append(list, c.stmt(deep-1))
	}
	return list
}

func (c chooser) stmt(deep int) api.Stmt {
	wide := c.Intn(4)
	switch kind := api.SLet + c.Intn(13); kind {
	case api.SPut:
		return stmt(kind, c.small(), c.exprs(2, wide)...)
	case api.SIf:
		return choice(c.expr(wide), c.stmts(deep), c.stmts(deep))
	case api.SWhile:
		return loop(c.pick("", c.small()), c.expr(wide), c.stmts(deep)...)
	case api.SEach:
		return each(c.pick("", c.small()), c.small(), c.small(), c.stmts(deep)...)
	case api.SBreak, api.SContinue:
		return stmt(kind, c.pick("", c.small()))
	case api.SReturn:
		return stmt(kind, "", c.exprs(c.Intn(2), wide)...)
	case api.SEmit, api.SDo:
		return stmt(kind, "", c.exprs(1, wide)...)
	case api.SAfter:
		return stmt(kind, c.small(), c.exprs(1+c.Intn(4), wide)...)
	default:
		return stmt(kind, c.small(), c.exprs(1, wide)...)
	}
}

func (c chooser) tree() api.Tree {
	var t api.Tree
	for range c.Intn(3) {
		t.Records = append(t.Records, api.Decl{Name: c.great(), Params: c.params(1, func() string { return c.pick("int", "text", "bool") })})
	}
	for range c.Intn(3) {
		t.Maps = append(t.Maps, api.Decl{Name: c.small(), Key: c.pick("int", "text"), Value: c.kind()})
	}
	for range c.Intn(3) {
		t.Funcs = append(t.Funcs, api.Decl{Name: c.small(), Params: c.params(0, c.kind), Result: c.pick("", c.kind()), Body: c.stmts(3)})
	}
	for range c.Intn(3) {
		t.Events = append(t.Events, api.Decl{Name: c.small(), Params: c.params(0, c.kind), Body: c.stmts(3)})
	}
	return t
}

// wantTree holds a tree's Is, and what hangs on it, against what is wanted.
func wantTree(t *testing.T, x api.Tree, want bool) {
	t.Helper()
	is := tree.Is(x)
	s, err := tree.Print(x)
	refused := s == "" && err == api.ErrTreeForm && tree.Depth(x) == 0
	if is != want || want != (err == api.OK) || !want && !refused {
		t.Errorf("%+v: Is %t, Print %q, %d, Depth %d", x, is, s, err, tree.Depth(x))
	}
}

// wantExpr: by itself, and within a tree.
func wantExpr(t *testing.T, e api.Expr, want bool) {
	t.Helper()
	s, err := tree.Expr(e)
	if want != (err == api.OK) || !want && (s != "" || err != api.ErrTreeForm) {
		t.Errorf("%+v: %q, %d", e, s, err)
	}
	if tree.Is(within(e)) != want {
		t.Errorf("%+v: within a tree %t", e, !want)
	}
}
