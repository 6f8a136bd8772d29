package parse_test

import (
	"math"
	"math/rand"
	"reflect"
	"strings"
	"testing"

	"windlass/api"
	"windlass/parse"
	"windlass/tree"
)

func integer(n int64) api.Expr { return api.Expr{Kind: api.EInt, Int: n} }

func text(s string) api.Expr { return api.Expr{Kind: api.EText, Text: s} }

func truth(n int64) api.Expr { return api.Expr{Kind: api.EBool, Int: n} }

func variable(name string) api.Expr { return api.Expr{Kind: api.EVar, Name: name} }

func unary(op int, arg api.Expr) api.Expr {
	return api.Expr{Kind: api.EUnary, Op: op, Args: []api.Expr{arg}}
}

func binary(op int, a, b api.Expr) api.Expr {
	return api.Expr{Kind: api.EBinary, Op: op, Args: []api.Expr{a, b}}
}

// named: of the kinds that have a name and arguments alone.
func named(kind int, name string, args ...api.Expr) api.Expr {
	return api.Expr{Kind: kind, Name: name, Args: args}
}

func field(e api.Expr, name string) api.Expr { return named(api.EField, name, e) }

func record(name string, names []string, args ...api.Expr) api.Expr {
	return api.Expr{Kind: api.EMake, Name: name, Names: names, Args: args}
}

func stmt(kind int, name string, args ...api.Expr) api.Stmt {
	return api.Stmt{Kind: kind, Name: name, Args: args}
}

func loop(label string, test api.Expr, body ...api.Stmt) api.Stmt {
	return api.Stmt{Kind: api.SWhile, Label: label, Args: []api.Expr{test}, Body: body}
}

func each(label, key, name string, body ...api.Stmt) api.Stmt {
	return api.Stmt{Kind: api.SEach, Label: label, Var: key, Name: name, Body: body}
}

func choice(test api.Expr, body, other []api.Stmt) api.Stmt {
	return api.Stmt{Kind: api.SIf, Args: []api.Expr{test}, Body: body, Else: other}
}

// handler: a tree with one handler alone.
func handler(body ...api.Stmt) api.Tree {
	return api.Tree{Events: []api.Decl{{Name: "e", Body: body}}}
}

// in: a source whose handler has these statements, the first of them at inside.
func in(statements string) string { return begin + statements + " }" }

const (
	begin  = "on e() { "
	inside = len(begin)
)

// let: likewise, of an expression, which stands at behindLet.
func let(expr string) string { return in("let x = " + expr + ";") }

const behindLet = inside + len("let x = ")

// commas: an element some times, with commas between.
func commas(count int, element string) string {
	return strings.TrimSuffix(strings.Repeat(element+", ", count), ", ")
}

// spread: a copy, no list of which is nil, with At changed everywhere.
func spread(t api.Tree, at func(int) int) api.Tree {
	return api.Tree{Records: spreadDecls(t.Records, at), Maps: spreadDecls(t.Maps, at), Funcs: spreadDecls(t.Funcs, at), Events: spreadDecls(t.Events, at)}
}

func keep(at int) int { return at }

func zero(int) int { return 0 }

func copied[T any](list []T) []T { return append(make([]T, 0, len(list)), list...) }

func spreadDecls(list []api.Decl, at func(int) int) []api.Decl {
	list = copied(list)
	for i := range list {
		d := &list[i]
		d.At, d.Params, d.Body = at(d.At), copied(d.Params), spreadStmts(d.Body, at)
	}
	return list
}

func spreadStmts(list []api.Stmt, at func(int) int) []api.Stmt {
	list = copied(list)
	for i := range list {
		s := &list[i]
		s.At, s.Args, s.Body, s.Else = at(s.At), spreadExprs(s.Args, at), spreadStmts(s.Body, at), spreadStmts(s.Else, at)
	}
	return list
}

func spreadExprs(list []api.Expr, at func(int) int) []api.Expr {
	list = copied(list)
	for i := range list {
		e := &list[i]
		e.At, e.Names, e.Args = at(e.At), copied(e.Names), spreadExprs(e.Args, at)
	}
	return list
}

// equal: At of each, too; nil and empty are one.
func equal(a, b api.Tree) bool { return reflect.DeepEqual(spread(a, keep), spread(b, keep)) }

// equalBare: but for At.
func equalBare(a, b api.Tree) bool { return reflect.DeepEqual(spread(a, zero), spread(b, zero)) }

// wantBare: that a source is read as a tree, At not looked at.
func wantBare(t *testing.T, source string, want api.Tree) {
	t.Helper()
	got, at, err := parse.Parse(source)
	if err != api.OK || at != 0 || !equalBare(got, want) || !tree.Same(got, want) || !tree.Is(got) {
		t.Errorf("%s: %+v, %d at %d; want %+v", source, got, err, at, want)
	}
}

// wantExpr: likewise, of an expression.
func wantExpr(t *testing.T, source string, want api.Expr) {
	t.Helper()
	wantBare(t, let(source), handler(stmt(api.SLet, "x", want)))
}

// wantFault: that a source is refused with an error, at a place, and nothing beside.
func wantFault(t *testing.T, source string, at int, err api.Errno) {
	t.Helper()
	got, place, number := parse.Parse(source)
	if place != at || number != err || err != api.OK && !equal(got, api.Tree{}) {
		t.Errorf("%s: %+v, %d at %d; want %d at %d", source, got, number, place, err, at)
	}
}

// wantRead: that it isn't refused.
func wantRead(t *testing.T, source string) {
	t.Helper()
	wantFault(t, source, 0, api.OK)
}

// chooser makes trees that may be, by chance.
type chooser struct{ *rand.Rand }

func (c chooser) pick(texts ...string) string { return texts[c.Intn(len(texts))] }

func (c chooser) small() string {
	return c.pick("a", "b", "x", "_", "_1", "whiles", "aZ9", strings.Repeat("n", 20))
}

func (c chooser) great() string { return c.pick("P", "Q", "While", "A_9", strings.Repeat("N", 20)) }

func (c chooser) kind() string { return c.pick("int", "text", "bool", c.great()) }

func (c chooser) params(least int, kind func() string) []api.Param {
	var params []api.Param
	for range least + c.Intn(4) {
		params = append(params, api.Param{Name: c.small(), Type: kind()})
	}
	return params
}

func (c chooser) exprs(count, deep int) []api.Expr {
	var list []api.Expr
	for range count {
		list = append(list, c.expr(deep-1))
	}
	return list
}

func (c chooser) expr(deep int) api.Expr {
	if deep <= 0 {
		samples := []api.Expr{integer(c.Int63n(20) - 10), integer(c.Int63() - c.Int63()), integer(math.MinInt64), integer(math.MaxInt64), text(c.pick("", `"`, `a"b`, "not (", "\xff#", "+")), truth(c.Int63n(2)), variable(c.small()), named(api.ECall, c.small())}
		return samples[c.Intn(len(samples))]
	}
	switch kind := api.EUnary + c.Intn(8); kind {
	case api.EUnary:
		return unary(api.ONeg+c.Intn(4), c.expr(deep-1))
	case api.EBinary:
		return binary(api.OAdd+c.Intn(17), c.expr(deep-1), c.expr(deep-1))
	case api.EMake:
		names := []string{c.small(), c.small(), c.small()}[:1+c.Intn(3)]
		return record(c.great(), names, c.exprs(len(names), deep)...)
	case api.ECall:
		return named(kind, c.small(), c.exprs(c.Intn(4), deep)...)
	default:
		return named(kind, c.small(), c.exprs(1, deep)...)
	}
}

// chain: an expression that is deep and not wide.
func (c chooser) chain(deep int) api.Expr {
	e := c.expr(0)
	for range deep {
		switch c.Intn(8) {
		case 0:
			e = unary(api.ONeg+c.Intn(4), e)
		case 1:
			e = binary(api.OAdd+c.Intn(17), e, c.expr(0))
		case 2:
			e = binary(api.OAdd+c.Intn(17), c.expr(0), e)
		case 3:
			e = field(e, c.small())
		case 4:
			e = record(c.great(), []string{c.small(), c.small()}, c.expr(0), e)
		case 5:
			e = named(api.ECall, c.small(), c.expr(0), e)
		default:
			e = named(api.EGet+c.Intn(4), c.small(), e)
		}
	}
	return e
}

func (c chooser) stmts(deep int) []api.Stmt {
	var list []api.Stmt
	for range c.Intn(deep + 2) {
		list = append(list, c.stmt(deep-1))
	}
	return list
}

func (c chooser) stmt(deep int) api.Stmt {
	wide := c.Intn(4)
	switch kind := api.SLet + c.Intn(13); kind {
	case api.SPut:
		return stmt(kind, c.small(), c.exprs(2, wide)...)
	case api.SIf:
		return choice(c.expr(wide), c.stmts(deep), c.stmts(deep))
	case api.SWhile:
		return loop(c.pick("", c.small()), c.expr(wide), c.stmts(deep)...)
	case api.SEach:
		return each(c.pick("", c.small()), c.small(), c.small(), c.stmts(deep)...)
	case api.SBreak, api.SContinue:
		return stmt(kind, c.pick("", c.small()))
	case api.SReturn:
		return stmt(kind, "", c.exprs(c.Intn(2), wide)...)
	case api.SEmit, api.SDo:
		return stmt(kind, "", c.exprs(1, wide)...)
	case api.SAfter:
		return stmt(kind, c.small(), c.exprs(1+c.Intn(4), wide)...)
	default:
		return stmt(kind, c.small(), c.exprs(1, wide)...)
	}
}

func (c chooser) tree() api.Tree {
	var t api.Tree
	for range c.Intn(3) {
		t.Records = append(t.Records, api.Decl{Name: c.great(), Params: c.params(1, func() string { return c.pick("int", "text", "bool") })})
	}
	for range c.Intn(3) {
		t.Maps = append(t.Maps, api.Decl{Name: c.small(), Key: c.pick("int", "text"), Value: c.kind()})
	}
	for range c.Intn(3) {
		t.Funcs = append(t.Funcs, api.Decl{Name: c.small(), Params: c.params(0, c.kind), Result: c.pick("", c.kind()), Body: c.stmts(3)})
	}
	for range c.Intn(3) {
		t.Events = append(t.Events, api.Decl{Name: c.small(), Params: c.params(0, c.kind), Body: c.stmts(3)})
	}
	return t
}
