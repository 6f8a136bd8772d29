package tree_test

import (
	"math"
	"slices"
	"strings"
	"testing"

	"windlass/api"
	"windlass/tree"
)

// stmtRule: what the chapter says of a kind, field by field.
type stmtRule struct {
	name, label, key func(string) bool
	args             [2]int
	body, other      bool
}

var stmtRules = map[int]stmtRule{
	api.SLet:      {small, noText, noText, [2]int{1, 1}, false, false},
	api.SSet:      {small, noText, noText, [2]int{1, 1}, false, false},
	api.SPut:      {small, noText, noText, [2]int{2, 2}, false, false},
	api.SDel:      {small, noText, noText, [2]int{1, 1}, false, false},
	api.SIf:       {noText, noText, noText, [2]int{1, 1}, true, true},
	api.SWhile:    {noText, smallOrNone, noText, [2]int{1, 1}, true, false},
	api.SEach:     {small, smallOrNone, small, [2]int{}, true, false},
	api.SBreak:    {smallOrNone, noText, noText, [2]int{}, false, false},
	api.SContinue: {smallOrNone, noText, noText, [2]int{}, false, false},
	api.SReturn:   {noText, noText, noText, [2]int{0, 1}, false, false},
	api.SEmit:     {noText, noText, noText, [2]int{1, 1}, false, false},
	api.SAfter:    {small, noText, noText, [2]int{1, 13}, false, false},
	api.SDo:       {noText, noText, noText, [2]int{1, 1}, false, false},
}

// stmtMayBe: P6.2, by the rules.
func stmtMayBe(s api.Stmt) bool {
	rule, known := stmtRules[s.Kind]
	if !known || !rule.name(s.Name) || !rule.label(s.Label) || !rule.key(s.Var) || !among(len(s.Args), rule.args) {
		return false
	}
	if len(s.Body) > 0 && !rule.body || len(s.Else) > 0 && !rule.other {
		return false
	}
	wrong := func(s api.Stmt) bool { return !stmtMayBe(s) }
	return !slices.ContainsFunc(s.Args, func(e api.Expr) bool { return !exprMayBe(e) }) && !slices.ContainsFunc(s.Body, wrong) && !slices.ContainsFunc(s.Else, wrong)
}

func wantStmt(t *testing.T, s api.Stmt, want bool) {
	t.Helper()
	wantTree(t, handler(s), want)
}

// P6.2: kinds, names, labels, lists of all sorts with one another.
func TestStmtMayBe(t *testing.T) {
	leave := stmt(api.SReturn, "")
	args := [][]api.Expr{nil, {}, someArgs(1), someArgs(2), someArgs(3), someArgs(13), someArgs(14), {{}}, {integer(1), {Kind: 13}}}
	bodies := [][]api.Stmt{nil, {}, {leave}, {leave, leave}, {{}}, {leave, {Kind: 14}}}
	right := 0
	for _, kind := range []int{math.MinInt, -1, 0, 1, 2, 3, 4, 5, 6, 7, 8, 9, 10, 11, 12, 13, 14, 15, math.MaxInt} {
		for _, name := range []string{"", "a", "A", "if"} {
			for _, label := range []string{"", "l", "L", "in"} {
				for _, key := range []string{"", "k", "K", "on"} {
					for _, list := range args {
						for _, body := range bodies {
							for _, other := range bodies {
								s := api.Stmt{Kind: kind, Name: name, Label: label, Var: key, Args: list, Body: body, Else: other}
								want := stmtMayBe(s)
								if got := tree.Is(handler(s)); got != want {
									t.Errorf("%+v: %t", s, got)
								}
								if want {
									right++
								}
							}
						}
					}
				}
			}
		}
	}
	if right < 100 {
		t.Errorf("only %d may be", right)
	}
}

// P6.2: the samples may be, in functions and handlers; each field that must be zero, set by itself.
func TestStmtSamples(t *testing.T) {
	for _, s := range sampleStmts() {
		wantStmt(t, s, true)
		wantTree(t, api.Tree{Funcs: []api.Decl{{Name: "f", Body: []api.Stmt{s}}}}, true)
		wantTree(t, api.Tree{Maps: []api.Decl{{Name: "m", Key: "int", Value: "int", Body: []api.Stmt{s}}}}, false)
		wantTree(t, api.Tree{Records: []api.Decl{{Name: "P", Params: []api.Param{{Name: "x", Type: "int"}}, Body: []api.Stmt{s}}}}, false)
		for kind := -2; kind < 17; kind++ {
			changed := s
			changed.Kind = kind
			wantStmt(t, changed, stmtMayBe(changed))
		}
		for _, change := range []func(*api.Stmt){
			func(s *api.Stmt) { s.Name = "x" }, func(s *api.Stmt) { s.Name = "X" }, func(s *api.Stmt) { s.Name = "" },
			func(s *api.Stmt) { s.Label = "x" }, func(s *api.Stmt) { s.Label = "X" }, func(s *api.Stmt) { s.Var = "x" }, func(s *api.Stmt) { s.Var = "" },
			func(s *api.Stmt) { s.Args = nil }, func(s *api.Stmt) { s.Args = someArgs(1) }, func(s *api.Stmt) { s.Args = append(someArgs(1), s.Args...) },
			func(s *api.Stmt) { s.Body = []api.Stmt{stmt(api.SBreak, "")} }, func(s *api.Stmt) { s.Else = []api.Stmt{stmt(api.SBreak, "")} },
		} {
			changed := s
			change(&changed)
			wantStmt(t, changed, stmtMayBe(changed))
		}
		for _, at := range []int{-1, 1, math.MinInt, math.MaxInt} {
			changed := s
			changed.At = at
			wantStmt(t, changed, true)
		}
	}
}

// P6.2: names, labels, variables of every kind that has one.
func TestStmtNames(t *testing.T) {
	x := integer(1)
	for _, name := range append(append(someNames(), "_", "_9", "z9", "9", "a-b", " a", "é", "\xff"), allWords...) {
		for _, kind := range []int{api.SLet, api.SSet, api.SDel, api.SAfter} {
			wantStmt(t, stmt(kind, name, x), small(name))
		}
		wantStmt(t, stmt(api.SPut, name, x, x), small(name))
		wantStmt(t, stmt(api.SBreak, name), smallOrNone(name))
		wantStmt(t, stmt(api.SContinue, name), smallOrNone(name))
		wantStmt(t, loop(name, x), smallOrNone(name))
		wantStmt(t, each(name, "k", "m"), smallOrNone(name))
		wantStmt(t, each("", name, "m"), small(name))
		wantStmt(t, each("", "k", name), small(name))
		for _, kind := range []int{api.SIf, api.SWhile, api.SReturn, api.SEmit, api.SDo} {
			wantStmt(t, stmt(kind, name, x), name == "")
		}
		for kind := api.SLet; kind <= api.SDo; kind++ {
			if kind != api.SWhile && kind != api.SEach {
				wantStmt(t, api.Stmt{Kind: kind, Name: "x", Label: name, Args: []api.Expr{x}}, name == "" && stmtMayBe(stmt(kind, "x", x)))
			}
		}
	}
}

// P6.2: how many arguments of each kind.
func TestStmtCounts(t *testing.T) {
	for count := range 17 {
		for kind, rule := range stmtRules {
			s := api.Stmt{Kind: kind, Args: someArgs(count)}
			if !rule.name("") {
				s.Name = "n"
			}
			if !rule.key("") {
				s.Var = "k"
			}
			wantStmt(t, s, among(count, rule.args))
		}
	}
	wantStmt(t, stmt(api.SAfter, "e", someArgs(1<<16)...), false)
	wantStmt(t, loop("", integer(1), slices.Repeat([]api.Stmt{stmt(api.SBreak, "")}, 5000)...), true)
	wantTree(t, handler(slices.Repeat([]api.Stmt{stmt(api.SReturn, "")}, 5000)...), true)
}

// P6.2: a fault in each statement's and each expression's place within another one.
func TestStmtWithin(t *testing.T) {
	wrongs := []api.Stmt{{}, {Kind: 14}, stmt(api.SBreak, "L"), stmt(api.SLet, "x"), stmt(api.SEmit, "", truth(2)), stmt(api.SEmit, "", unary(api.ONeg, variable("")))}
	leave := stmt(api.SReturn, "")
	for _, outer := range []func(...api.Stmt) api.Stmt{
		func(body ...api.Stmt) api.Stmt { return choice(truth(1), body, nil) },
		func(body ...api.Stmt) api.Stmt { return choice(truth(1), nil, body) },
		func(body ...api.Stmt) api.Stmt { return loop("l", truth(1), body...) },
		func(body ...api.Stmt) api.Stmt { return each("", "k", "m", body...) },
	} {
		for _, inner := range sampleStmts() {
			wantStmt(t, outer(inner), true)
			wantStmt(t, outer(leave, inner, leave), true)
			wantStmt(t, outer(outer(inner)), true)
		}
		for _, wrong := range wrongs {
			wantStmt(t, wrong, false)
			wantStmt(t, outer(wrong), false)
			wantStmt(t, outer(leave, wrong), false)
			wantStmt(t, outer(wrong, leave), false)
			wantStmt(t, outer(leave, outer(leave, outer(leave, wrong))), false)
		}
	}
	for _, s := range sampleStmts() {
		for i := range s.Args {
			changed := s
			changed.Args = slices.Clone(s.Args)
			changed.Args[i] = unary(api.OLen, unary(api.OStr, truth(-1)))
			wantStmt(t, changed, false)
		}
	}
	for _, sort := range []func(*api.Tree) *[]api.Decl{func(t *api.Tree) *[]api.Decl { return &t.Funcs }, func(t *api.Tree) *[]api.Decl { return &t.Events }} {
		for i := range 16 {
			var x api.Tree
			*sort(&x) = slices.Repeat([]api.Decl{{Name: "f", Body: []api.Stmt{leave}}}, 16)
			wantTree(t, x, true)
			(*sort(&x))[i].Body = []api.Stmt{leave, {}}
			wantTree(t, x, false)
		}
	}
}

// declMayBe: P6.2, of a declaration of the sort that the word names.
func declMayBe(sort string, d api.Decl) bool {
	field := func(s string) bool { return s == "int" || s == "text" || s == "bool" }
	kind := func(s string) bool { return field(s) || great(s) }
	all := func(mayBe func(string) bool) bool {
		return len(d.Params) <= 12 && !slices.ContainsFunc(d.Params, func(p api.Param) bool { return !small(p.Name) || !mayBe(p.Type) })
	}
	body := !slices.ContainsFunc(d.Body, func(s api.Stmt) bool { return !stmtMayBe(s) })
	switch sort {
	case "record":
		return great(d.Name) && len(d.Params) > 0 && all(field) && d.Key+d.Value+d.Result == "" && len(d.Body) == 0
	case "map":
		return small(d.Name) && (d.Key == "int" || d.Key == "text") && kind(d.Value) && len(d.Params)+len(d.Body) == 0 && d.Result == ""
	case "fn":
		return small(d.Name) && all(kind) && (d.Result == "" || kind(d.Result)) && d.Key+d.Value == "" && body
	}
	return small(d.Name) && all(kind) && d.Key+d.Value+d.Result == "" && body
}

var sorts = []string{"record", "map", "fn", "on"}

// declared: a tree with these declarations alone.
func declared(sort string, list ...api.Decl) api.Tree {
	switch sort {
	case "record":
		return api.Tree{Records: list}
	case "map":
		return api.Tree{Maps: list}
	case "fn":
		return api.Tree{Funcs: list}
	}
	return api.Tree{Events: list}
}

// P6.2: declarations of each sort: names, params, keys, values, results, bodies of all sorts with one another.
func TestDeclMayBe(t *testing.T) {
	param := func(name, kind string) []api.Param { return []api.Param{{Name: name, Type: kind}} }
	leave := stmt(api.SReturn, "")
	right := 0
	for _, sort := range sorts {
		for _, name := range []string{"", "a", "A", "if"} {
			for _, params := range [][]api.Param{nil, {}, param("x", "int"), param("x", "P"), param("x", ""), param("X", "int"), slices.Repeat(param("x", "text"), 12), slices.Repeat(param("x", "text"), 13)} {
				for _, key := range []string{"", "int", "text", "bool", "P"} {
					for _, value := range []string{"", "int", "text", "bool", "P", "p", "record"} {
						for _, result := range []string{"", "int", "text", "bool", "P", "p", "none"} {
							for _, body := range [][]api.Stmt{nil, {}, {leave}, {{}}, {leave, {}}} {
								d := api.Decl{Name: name, Params: params, Key: key, Value: value, Result: result, Body: body, At: len(key)}
								want := declMayBe(sort, d)
								if got := tree.Is(declared(sort, d)); got != want {
									t.Errorf("%s %+v: %t", sort, d, got)
								}
								if want {
									right++
								}
							}
						}
					}
				}
			}
		}
	}
	if right < 100 {
		t.Errorf("only %d may be", right)
	}
}

// sampleDecl: one that may be.
func sampleDecl(sort string) api.Decl {
	switch sort {
	case "record":
		return api.Decl{Name: "P", Params: []api.Param{{Name: "x", Type: "int"}}}
	case "map":
		return api.Decl{Name: "m", Key: "int", Value: "P"}
	case "fn":
		return api.Decl{Name: "f", Params: []api.Param{{Name: "x", Type: "P"}}, Result: "bool"}
	}
	return api.Decl{Name: "e", Params: []api.Param{{Name: "x", Type: "P"}}}
}

// P6.2: 16 declarations of each sort, and 17; none; one wrong one among them.
func TestDeclCounts(t *testing.T) {
	wantTree(t, api.Tree{}, true)
	wantTree(t, api.Tree{Records: []api.Decl{}, Maps: []api.Decl{}, Funcs: []api.Decl{}, Events: []api.Decl{}}, true)
	for _, sort := range sorts {
		for count := range 20 {
			wantTree(t, declared(sort, slices.Repeat([]api.Decl{sampleDecl(sort)}, count)...), count <= 16)
		}
		wantTree(t, declared(sort, slices.Repeat([]api.Decl{sampleDecl(sort)}, 1<<12)...), false)
		for i := range 16 {
			list := slices.Repeat([]api.Decl{sampleDecl(sort)}, 16)
			list[i].Name = ""
			wantTree(t, declared(sort, list...), false)
			list[i] = sampleDecl(sort)
			list[i].At = -1 << 40
			wantTree(t, declared(sort, list...), true)
		}
	}
	full := func(sort string) []api.Decl { return slices.Repeat([]api.Decl{sampleDecl(sort)}, 16) }
	all := api.Tree{Records: full("record"), Maps: full("map"), Funcs: full("fn"), Events: full("on")}
	wantTree(t, all, true)
	for i, list := range []*[]api.Decl{&all.Records, &all.Maps, &all.Funcs, &all.Events} {
		*list = append(*list, sampleDecl(sorts[i]))
		wantTree(t, all, false)
		*list = (*list)[:16]
		wantTree(t, all, true)
	}
}

// P6.2: a declaration of each sort in the place of each other one.
func TestDeclSorts(t *testing.T) {
	for _, sort := range sorts {
		for _, other := range sorts {
			wantTree(t, declared(other, sampleDecl(sort)), declMayBe(other, sampleDecl(sort)))
		}
	}
	wantTree(t, declared("on", sampleDecl("fn")), false)
	wantTree(t, declared("fn", sampleDecl("on")), true)
	wantTree(t, declared("fn", sampleDecl("record")), false)
	wantTree(t, declared("map", sampleDecl("fn")), false)
}

// P6.2: names and types of every sort.
func TestDeclTypes(t *testing.T) {
	names := append(append(someNames(), "_", "_9", "Ab", "aB", "9", "P Q", " int", "int ", "Int", "INT", "é", "\xff", "none", "bool2"), allWords...)
	for _, name := range names {
		for _, sort := range sorts {
			d := sampleDecl(sort)
			d.Name = name
			want := small
			if sort == "record" {
				want = great
			}
			wantTree(t, declared(sort, d), want(name))
		}
		for i := range 12 {
			for _, sort := range []string{"record", "fn", "on"} {
				d := sampleDecl(sort)
				d.Params = slices.Repeat(d.Params, 12)
				d.Params[i].Name = name
				wantTree(t, declared(sort, d), small(name))
				d = sampleDecl(sort)
				d.Params = slices.Repeat(d.Params, 12)
				d.Params[i].Type = name
				wantTree(t, declared(sort, d), name == "int" || name == "text" || name == "bool" || great(name) && sort != "record")
			}
		}
		kind := name == "int" || name == "text" || name == "bool" || great(name)
		wantTree(t, declared("map", api.Decl{Name: "m", Key: name, Value: "int"}), name == "int" || name == "text")
		wantTree(t, declared("map", api.Decl{Name: "m", Key: "int", Value: name}), kind)
		wantTree(t, declared("fn", api.Decl{Name: "f", Result: name}), name == "" || kind)
		wantTree(t, declared("on", api.Decl{Name: "f", Result: name}), name == "")
	}
}

// P6.2: fields of a record and params, none of them, 1, 12, 13; two of one name may be.
func TestDeclParams(t *testing.T) {
	for count := range 16 {
		for _, sort := range []string{"record", "fn", "on"} {
			d := sampleDecl(sort)
			d.Params = slices.Repeat([]api.Param{{Name: "x", Type: "text"}}, count)
			wantTree(t, declared(sort, d), count <= 12 && (count > 0 || sort != "record"))
		}
		d := sampleDecl("map")
		d.Params = slices.Repeat([]api.Param{{Name: "x", Type: "text"}}, count)
		wantTree(t, declared("map", d), count == 0)
	}
	wantTree(t, declared("fn", api.Decl{Name: "f", Params: make([]api.Param, 1)}), false)
	wantTree(t, declared("fn", api.Decl{Name: strings.Repeat("f", 20)}, api.Decl{Name: "f"}, api.Decl{Name: "f"}), true)
}
