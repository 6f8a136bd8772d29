package lower_test

import (
	"fmt"
	"math"
	"math/rand"
	"strings"
	"testing"

	"windlass/api"
	"windlass/lex"
	"windlass/lower"
	"windlass/parse"
	"windlass/types"
)

// P13.1: types.Check's errors and their places, which stand where the @ is.
func TestErrorsOfTypes(t *testing.T) {
	for _, r := range []struct {
		source string
		err    api.Errno
	}{
		{in("do @nope;"), api.ErrTypeName}, {in("@nope[1] = 1;"), api.ErrTypeName}, {in("do @nope();"), api.ErrTypeName}, {in("@each k in nope { }"), api.ErrTypeName}, {in("@after 1 nope();"), api.ErrTypeName}, {head + "@map nope: int -> Nope;", api.ErrTypeName},
		{in("let k = 1; @let k = 2;"), api.ErrTypeTwice}, {in("@let m = 2;"), api.ErrTypeTwice}, {in("x: while true { @x: while true { } }"), api.ErrTypeTwice}, {head + "@on u() { }", api.ErrTypeTwice}, {head + "@record P { x: int }", api.ErrTypeTwice},
		{in("do 1 + @true;"), api.ErrTypeType}, {in("emit @1;"), api.ErrTypeType}, {in("if @1 { }"), api.ErrTypeType}, {in("m[1] = @\"a\";"), api.ErrTypeType}, {in("let k = @z(1);"), api.ErrTypeType}, {in("do @m[1].x;"), api.ErrTypeType},
		{in("do @four(1, 2);"), api.ErrTypeCount}, {in("@after 1 v();"), api.ErrTypeCount}, {in("do @P{x: 1, s: \"\"};"), api.ErrTypeCount},
		{in("@break;"), api.ErrTypeLoop}, {in("x: while true { @continue y; }"), api.ErrTypeLoop},
		{in("@return 1;"), api.ErrTypeReturn}, {head + "@fn g() -> int { while true { return 1; } }", api.ErrTypeReturn}, {head + "@fn g() -> int { if true { return 1; } }", api.ErrTypeReturn}, {head + "fn g() -> int { @return; }", api.ErrTypeReturn},
		// The first of two, and a fault behind a function that is too great.
		{"on e() { do @nope; } on g() { do 1 + true; }", api.ErrTypeName}, {"on e() { " + strings.Repeat("do 1 + 1 + 1; ", 250) + "do @nope; }", api.ErrTypeName},
	} {
		x := read(t, strings.Replace(r.source, "@", "", 1))
		wantRefused(t, r.source, x, strings.Index(r.source, "@"), r.err)
	}
	for _, x := range []api.Tree{{Maps: make([]api.Decl, 1)}, {Events: []api.Decl{{Name: "E"}}}, {Funcs: make([]api.Decl, 17)}, {Events: []api.Decl{{Name: "e", Body: []api.Stmt{{}}}}}, {Events: []api.Decl{{Name: "e", Body: []api.Stmt{{Kind: api.SDo, Args: []api.Expr{{Kind: 99}}, At: 8}}}}}} {
		wantRefused(t, "no tree", x, 0, api.ErrTypeTree)
	}
}

// P13.1: what is refused is what types.Check refuses, with its error and place: of sources of which a token is another one, at chance.
func TestSpoilt(t *testing.T) {
	r := rand.New(rand.NewSource(137))
	k := &maker{Rand: r, limit: small}
	taken, refused := 0, 0
	for range 400 {
		source := printed(k.whole())
		tokens, _, _ := lex.Tokens(source)
		for range 20 {
			one, other := tokens[r.Intn(len(tokens)-1)], tokens[r.Intn(len(tokens)-1)]
			text := other.Text
			if other.Kind == api.TokText {
				text = lex.Quote(text)
			}
			length := len(one.Text)
			if one.Kind == api.TokText {
				length = len(lex.Quote(one.Text))
			}
			x, _, err := parse.Parse(source[:one.At] + text + source[one.At+length:])
			if err != api.OK {
				continue
			}
			if _, at, err := types.Check(x); err != api.OK {
				wantRefused(t, "spoilt", x, at, err)
				refused++
				continue
			}
			c := coded(t, x)
			if len(x.Events) > 0 && len(x.Events[0].Params) == 0 {
				runCode(t, c, x, blank(c.Program), api.Event{Name: x.Events[0].Name}, nil, 0)
			}
			taken++
		}
	}
	t.Logf("%d taken, %d refused", taken, refused)
	if taken < 200 || refused < 200 {
		t.Error("too few")
	}
}

// P13.1: of several functions that need too much the first one is told, functions ahead of handlers, by its At, whatever that is.
func TestWhichDeclaration(t *testing.T) {
	great := ofLets(65).Events[1].Body
	long := []api.Stmt{}
	for range 1100 {
		long = append(long, api.Stmt{Kind: api.SEmit, Args: []api.Expr{{Kind: api.EText}}})
	}
	for _, bad := range [][]api.Stmt{great, long} {
		for _, at := range []int{0, 1, -1, 4097, math.MaxInt, math.MinInt} {
			for first := range 6 {
				for second := first; second < 6; second++ {
					var x api.Tree
					for i := range 6 {
						d := api.Decl{Name: fmt.Sprint("f", i), At: 1000 + i}
						if i == first || i == second {
							d.Body = bad
						}
						if i == first {
							d.At = at
						}
						if i < 3 {
							x.Funcs = append(x.Funcs, d)
						} else {
							x.Events = append(x.Events, d)
						}
					}
					wantRefused(t, "two of six", x, at, api.ErrFlowForm)
				}
			}
		}
	}
}

// As deep as DOC.md's rules go, of each kind of what can hold others: it is refused, or taken where it needs little.
func TestDeepTrees(t *testing.T) {
	const deep = 1<<16 - 8
	number, truth := api.Expr{Kind: api.EInt}, api.Expr{Kind: api.EBool}
	tree := func(body ...api.Stmt) api.Tree {
		return api.Tree{Maps: []api.Decl{{Name: "m", Key: "int", Value: "int"}}, Funcs: []api.Decl{{Name: "f", At: 3, Params: []api.Param{{Name: "b", Type: "int"}, {Name: "c", Type: "int"}}, Result: "int", Body: []api.Stmt{{Kind: api.SReturn, Args: []api.Expr{number}}}}}, Events: []api.Decl{{Name: "e", At: 9, Params: []api.Param{{Name: "a", Type: "bool"}}, Body: body}}}
	}
	nested := map[string]func(e api.Expr) api.Expr{
		"minus": func(e api.Expr) api.Expr { return api.Expr{Kind: api.EUnary, Op: api.ONeg, Args: []api.Expr{e}} },
		"left": func(e api.Expr) api.Expr {
			return api.Expr{Kind: api.EBinary, Op: api.OAdd, Args: []api.Expr{e, number}}
		},
		"right": func(e api.Expr) api.Expr {
			return api.Expr{Kind: api.EBinary, Op: api.OAdd, Args: []api.Expr{number, e}}
		},
		"get":  func(e api.Expr) api.Expr { return api.Expr{Kind: api.EGet, Name: "m", Args: []api.Expr{e}} },
		"call": func(e api.Expr) api.Expr { return api.Expr{Kind: api.ECall, Name: "f", Args: []api.Expr{number, e}} },
	}
	for what, within := range nested {
		e := number
		for range deep {
			e = within(e)
		}
		wantRefused(t, what, tree(api.Stmt{Kind: api.SDo, Args: []api.Expr{e}}), 9, api.ErrFlowForm)
	}
	statements := map[string]func(s api.Stmt) api.Stmt{
		"if": func(s api.Stmt) api.Stmt {
			return api.Stmt{Kind: api.SIf, Args: []api.Expr{truth}, Body: []api.Stmt{s}}
		},
		"else": func(s api.Stmt) api.Stmt {
			return api.Stmt{Kind: api.SIf, Args: []api.Expr{truth}, Else: []api.Stmt{s}}
		},
		"while": func(s api.Stmt) api.Stmt {
			return api.Stmt{Kind: api.SWhile, Args: []api.Expr{truth}, Body: []api.Stmt{s}}
		},
	}
	for what, around := range statements {
		s := api.Stmt{Kind: api.SDo, Args: []api.Expr{number}}
		for range deep {
			s = around(s)
		}
		wantRefused(t, what, tree(s), 9, api.ErrFlowForm)
		// What isn't reached needs nothing.
		coded(t, tree(api.Stmt{Kind: api.SReturn}, s))
	}
	s := api.Stmt{Kind: api.SBreak}
	for i := range 2000 {
		s = api.Stmt{Kind: api.SEach, Name: "m", Var: fmt.Sprint("v", i), Body: []api.Stmt{s}}
	}
	wantRefused(t, "each", tree(s), 9, api.ErrFlowForm)
	some := api.Stmt{Kind: api.SIf, Args: []api.Expr{{Kind: api.EVar, Name: "a"}}}
	for range 1990 {
		some = api.Stmt{Kind: api.SIf, Args: []api.Expr{{Kind: api.EVar, Name: "a"}}, Body: []api.Stmt{some}, Else: []api.Stmt{}}
	}
	coded(t, tree(some))
}

// A tree of very many parts is refused, and soon.
func TestGreatTrees(t *testing.T) {
	var each, let, emit []api.Stmt
	for i := range 200000 {
		each = append(each, api.Stmt{Kind: api.SEach, Name: "m", Var: "k", Body: []api.Stmt{{Kind: api.SSet, Name: "k", Args: []api.Expr{{Kind: api.EInt}}}}})
		emit = append(emit, api.Stmt{Kind: api.SEmit, Args: []api.Expr{{Kind: api.EText, Text: fmt.Sprint(i)}}})
		if i < 2000 {
			let = append(let, api.Stmt{Kind: api.SLet, Name: fmt.Sprint("v", i), Args: []api.Expr{{Kind: api.EInt}}})
		}
	}
	for _, body := range [][]api.Stmt{each, emit, let} {
		x := api.Tree{Maps: []api.Decl{{Name: "m", Key: "int", Value: "int"}}, Events: []api.Decl{{Name: "e", At: 2, Body: body}}}
		wantRefused(t, "great", x, 2, api.ErrFlowForm)
	}
	if u, at, err := lower.Lower(read(t, "")); shown(u) != shown(api.Unit{}) || at != 0 || err != api.OK {
		t.Errorf("P13.1: of nothing: %d at %d", err, at)
	}
}
