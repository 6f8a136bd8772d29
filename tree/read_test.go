package tree_test

import (
	"math/rand"
	"slices"
	"strconv"
	"strings"
	"testing"

	"windlass/api"
	"windlass/lex"
	"windlass/tree"
)

// reader reads prints alone: less than what sources may be. It counts what it reads, and what is open.
type reader struct {
	tokens     []api.Token
	count      int
	open, most int
}

func (r *reader) is(s string) bool {
	first := r.tokens[0]
	return first.Text == s && (first.Kind == api.TokWord || first.Kind == api.TokSign)
}

func (r *reader) take() string {
	s := r.tokens[0].Text
	r.tokens = r.tokens[1:]
	return s
}

func (r *reader) enter() {
	r.open++
	r.most = max(r.most, r.open)
}

// want takes a word or a sign; of those that open and close it counts.
func (r *reader) want(s string) {
	if !r.is(s) {
		panic("no " + s + " but " + r.tokens[0].Text + " at " + strconv.Itoa(r.tokens[0].At))
	}
	r.take()
	switch s {
	case "(", "[", "{":
		r.enter()
	case ")", "]", "}":
		r.open--
	}
}

// maybe takes it, if it stands there.
func (r *reader) maybe(s string) bool {
	if !r.is(s) {
		return false
	}
	r.want(s)
	return true
}

func (r *reader) name() string {
	if r.tokens[0].Kind != api.TokName {
		panic("no name but " + r.tokens[0].Text)
	}
	return r.take()
}

// row: what stands between two signs, with commas between.
func (r *reader) row(from, to string, one func()) {
	r.want(from)
	for first := true; !r.is(to); first = false {
		if !first {
			r.want(",")
		}
		one()
	}
	r.want(to)
}

func (r *reader) params(from, to string) []api.Param {
	var list []api.Param
	r.row(from, to, func() {
		name := r.name()
		r.want(":")
		list = append(list, api.Param{Name: name, Type: r.take()})
	})
	return list
}

func (r *reader) tree() api.Tree {
	var t api.Tree
	for r.tokens[0].Kind != api.TokEnd {
		switch {
		case r.maybe("record"):
			t.Records = append(t.Records, api.Decl{Name: r.name(), Params: r.params("{", "}")})
		case r.maybe("map"):
			d := api.Decl{Name: r.name()}
			r.want(":")
			d.Key = r.take()
			r.want("->")
			d.Value = r.take()
			r.want(";")
			t.Maps = append(t.Maps, d)
		case r.maybe("fn"):
			d := api.Decl{Name: r.name(), Params: r.params("(", ")")}
			if r.maybe("->") {
				d.Result = r.take()
			}
			d.Body = r.block()
			t.Funcs = append(t.Funcs, d)
		default:
			r.want("on")
			t.Events = append(t.Events, api.Decl{Name: r.name(), Params: r.params("(", ")"), Body: r.block()})
		}
	}
	return t
}

func (r *reader) block() []api.Stmt {
	var body []api.Stmt
	r.want("{")
	for !r.is("}") {
		r.count++
		body = append(body, r.stmt())
	}
	r.want("}")
	return body
}

func (r *reader) stmt() api.Stmt {
	switch {
	case r.maybe("if"):
		s := api.Stmt{Kind: api.SIf, Args: []api.Expr{r.expr()}, Body: r.block()}
		if r.maybe("else") {
			s.Else = r.block()
		}
		return s
	case r.is("while"), r.is("each"):
		return r.loop("")
	case r.tokens[0].Kind == api.TokName && r.tokens[1].Text == ":":
		label := r.name()
		r.want(":")
		return r.loop(label)
	}
	s := r.simple()
	r.want(";")
	return s
}

func (r *reader) loop(label string) api.Stmt {
	if r.maybe("while") {
		return api.Stmt{Kind: api.SWhile, Label: label, Args: []api.Expr{r.expr()}, Body: r.block()}
	}
	r.want("each")
	key := r.name()
	r.want("in")
	return api.Stmt{Kind: api.SEach, Label: label, Var: key, Name: r.name(), Body: r.block()}
}

func (r *reader) simple() api.Stmt {
	switch {
	case r.maybe("let"):
		name := r.name()
		r.want("=")
		return stmt(api.SLet, name, r.expr())
	case r.maybe("del"):
		return stmt(api.SDel, r.name(), r.key())
	case r.maybe("break"):
		return stmt(api.SBreak, r.jump())
	case r.maybe("continue"):
		return stmt(api.SContinue, r.jump())
	case r.maybe("return"):
		if r.is(";") {
			return stmt(api.SReturn, "")
		}
		return stmt(api.SReturn, "", r.expr())
	case r.maybe("emit"):
		return stmt(api.SEmit, "", r.expr())
	case r.maybe("do"):
		return stmt(api.SDo, "", r.expr())
	case r.maybe("after"):
		args := []api.Expr{r.expr()}
		name := r.name()
		r.row("(", ")", func() { args = append(args, r.expr()) })
		return stmt(api.SAfter, name, args...)
	}
	name := r.name()
	if r.maybe("=") {
		return stmt(api.SSet, name, r.expr())
	}
	key := r.key()
	r.want("=")
	return stmt(api.SPut, name, key, r.expr())
}

func (r *reader) jump() string {
	if r.is(";") {
		return ""
	}
	return r.name()
}

func (r *reader) key() api.Expr {
	r.want("[")
	key := r.expr()
	r.want("]")
	return key
}

var signs = strings.Fields("+ - * +% -% *% / % & == != < <= > >= and or")

func (r *reader) expr() api.Expr {
	first, second := r.tokens[0], r.tokens[min(1, len(r.tokens)-1)]
	literal := r.is("-") && second.Kind == api.TokInt && second.At == first.At+1
	if !literal && (r.is("-") || r.is("not")) {
		op := api.ONot
		if r.take() == "-" {
			op = api.ONeg
		}
		r.enter()
		r.count++
		e := unary(op, r.operand())
		r.open--
		return e
	}
	e := r.operand()
	if op := slices.Index(signs, r.tokens[0].Text); op >= 0 && r.is(signs[op]) {
		r.take()
		r.count++
		return binary(api.OAdd+op, e, r.operand())
	}
	return e
}

func (r *reader) operand() api.Expr {
	var e api.Expr
	if r.maybe("(") {
		e = r.expr()
		r.want(")")
	} else {
		r.count++
		e = r.primary()
	}
	for r.maybe(".") {
		r.count++
		e = named(api.EField, r.name(), e)
	}
	return e
}

func (r *reader) primary() api.Expr {
	ahead := ""
	if r.maybe("-") {
		ahead = "-"
	}
	switch token := r.tokens[0]; {
	case token.Kind == api.TokInt:
		n, err := strconv.ParseInt(ahead+r.take(), 10, 64)
		if err != nil {
			panic(err)
		}
		return integer(n)
	case token.Kind == api.TokText:
		return text(r.take())
	case r.maybe("true"):
		return truth(1)
	case r.maybe("false"):
		return truth(0)
	case r.maybe("len"):
		return unary(api.OLen, r.args()...)
	case r.maybe("str"):
		return unary(api.OStr, r.args()...)
	case r.maybe("has"):
		return named(api.EHas, r.name(), r.key())
	case r.maybe("ask"):
		return named(api.EAsk, r.name(), r.args()...)
	}
	name := r.name()
	switch {
	case r.is("("):
		return named(api.ECall, name, r.args()...)
	case r.is("["):
		return named(api.EGet, name, r.key())
	case great(name):
		e := api.Expr{Kind: api.EMake, Name: name}
		r.row("{", "}", func() {
			e.Names = append(e.Names, r.name())
			r.want(":")
			e.Args = append(e.Args, r.expr())
		})
		return e
	}
	return variable(name)
}

func (r *reader) args() []api.Expr {
	var list []api.Expr
	r.row("(", ")", func() { list = append(list, r.expr()) })
	return list
}

// wantAgain wants what is printed to be the tree's alone: what is read from it is the tree, as deep and as great as is told.
func wantAgain(t *testing.T, x api.Tree) {
	t.Helper()
	s, err := tree.Print(x)
	if err != api.OK {
		t.Errorf("%+v: %d", x, err)
		return
	}
	if len(s) > api.MaxSource {
		return
	}
	tokens, at, err := lex.Tokens(s)
	if err != api.OK {
		t.Errorf("%s: %d at %d", s, err, at)
		return
	}
	defer func() {
		if fault := recover(); fault != nil {
			t.Errorf("%s: %v", s, fault)
		}
	}()
	r := reader{tokens: tokens}
	if got := r.tree(); !equalBare(got, x) || !tree.Same(got, x) {
		t.Errorf("%s: read as %+v, not as %+v", s, got, x)
	}
	if tree.Depth(x) != r.most || tree.Size(x) != r.count || r.open != 0 {
		t.Errorf("%s: Depth %d, want %d; Size %d, want %d", s, tree.Depth(x), r.most, tree.Size(x), r.count)
	}
}

// P6.3, P6.4: of the samples, each within each other one, and of trees by chance.
func TestPrintIsReadAgain(t *testing.T) {
	wantAgain(t, api.Tree{})
	for _, sort := range sorts {
		for count := range 17 {
			wantAgain(t, declared(sort, slices.Repeat([]api.Decl{sampleDecl(sort)}, count)...))
		}
	}
	for _, e := range sampleExprs() {
		wantAgain(t, within(e))
		for _, s := range sampleStmts() {
			for i := range s.Args {
				changed := s
				changed.Args = slices.Clone(s.Args)
				changed.Args[i] = e
				wantAgain(t, handler(changed, s))
			}
		}
		for i := range e.Args {
			for _, inner := range sampleExprs() {
				wantAgain(t, within(replaced(e, i, inner)))
				for j := range inner.Args {
					wantAgain(t, within(replaced(e, i, replaced(inner, j, integer(-3)))))
				}
			}
		}
	}
	c := chooser{rand.New(rand.NewSource(6))}
	for range 5000 {
		wantAgain(t, c.tree())
		wantAgain(t, within(c.expr(6)))
	}
}

// smallExprs: all of a level over those of the levels below it; binary operators and calls of two over some of them alone.
func smallExprs(below []api.Expr, ops ...int) []api.Expr {
	list := []api.Expr{named(api.ECall, "f")}
	for _, a := range below {
		list = append(list, unary(api.ONeg, a), unary(api.ONot, a), unary(api.OLen, a), unary(api.OStr, a), named(api.EField, "f", a), record("P", []string{"f"}, a), named(api.EGet, "f", a), named(api.EHas, "f", a), named(api.ECall, "f", a), named(api.EAsk, "f", a))
		for _, b := range below {
			for _, op := range ops {
				list = append(list, binary(op, a, b))
			}
		}
	}
	return list
}

// P6.4: no two unlike expressions have one print.
func TestPrintIsOnesOwn(t *testing.T) {
	leaves := []api.Expr{integer(1), integer(-1), text("1"), truth(0), variable("f")}
	level := append(smallExprs(leaves, api.OSub), leaves...)
	level = append(smallExprs(level, api.OSub), level...)
	seen := map[string]api.Expr{}
	for _, e := range append(smallExprs(level), level...) {
		s, err := tree.Expr(e)
		other, twice := seen[s]
		if err != api.OK || twice && !equalBare(within(other), within(e)) {
			t.Fatalf("%s: %d, of %+v, and of %+v", s, err, e, other)
		}
		seen[s] = e
	}
	if len(seen) < 60000 {
		t.Errorf("only %d expressions", len(seen))
	}
}
