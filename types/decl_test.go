package types_test

import (
	"math"
	"strconv"
	"strings"
	"testing"

	"windlass/api"
	"windlass/types"
)

// P8.1: what is declared is told in order, each sort by itself, whatever stands between.
func TestWhatIsDeclared(t *testing.T) {
	pair := api.RecordType{Name: "P", Fields: []string{"x", "s"}, Types: []api.Type{intType, textType}}
	truth := api.RecordType{Name: "Q", Fields: []string{"b"}, Types: []api.Type{boolType}}
	wantProgram(t, "", api.Program{})
	wantProgram(t, head, api.Program{
		Records: []api.RecordType{pair, truth},
		Maps:    []api.MapType{{Name: "m", Key: intType, Value: recordOf(0)}, {Name: "n", Key: textType, Value: intType}},
		Funcs:   []api.Sig{{Name: "f", Params: []api.Type{intType}, Result: textType}, {Name: "g"}, {Name: "p", Params: []api.Type{recordOf(0), boolType}, Result: recordOf(0)}, {Name: "q", Result: recordOf(1)}},
		Events:  []api.Sig{{Name: "t", Params: []api.Type{intType, textType}}, {Name: "u"}},
	})
	wantProgram(t, "on b(r: P, q: Q) { } map y: text -> Q; fn d(r: Q) -> Q { return r; } record Q { b: bool } map x: int -> P; on a() { } fn c() { } record P { x: int, s: text }", api.Program{
		Records: []api.RecordType{truth, pair},
		Maps:    []api.MapType{{Name: "y", Key: textType, Value: recordOf(0)}, {Name: "x", Key: intType, Value: recordOf(1)}},
		Funcs:   []api.Sig{{Name: "d", Params: []api.Type{recordOf(0)}, Result: recordOf(0)}, {Name: "c"}},
		Events:  []api.Sig{{Name: "b", Params: []api.Type{recordOf(1), recordOf(0)}}, {Name: "a"}},
	})
	wantProgram(t, "map a: int -> int; map b: text -> text; map c: int -> bool;", api.Program{Maps: []api.MapType{{Name: "a", Key: intType, Value: intType}, {Name: "b", Key: textType, Value: textType}, {Name: "c", Key: intType, Value: boolType}}})
	wantProgram(t, "fn a() -> int { return 1; } fn b() -> bool { return true; } on c(a: bool) { }", api.Program{
		Funcs:  []api.Sig{{Name: "a", Result: intType}, {Name: "b", Result: boolType}},
		Events: []api.Sig{{Name: "c", Params: []api.Type{boolType}}},
	})
}

// P8.1: as many as may be, of each sort, with as many params and fields.
func TestAsManyAsMayBe(t *testing.T) {
	var x api.Tree
	var params []api.Param
	for i := range api.MaxItems {
		params = append(params, api.Param{Name: "a" + strconv.Itoa(i), Type: "bool"})
	}
	for i := range api.MaxDecls {
		n := strconv.Itoa(i)
		x.Records = append(x.Records, api.Decl{Name: "R" + n, Params: params})
		x.Maps = append(x.Maps, api.Decl{Name: "m" + n, Key: "int", Value: "R" + strconv.Itoa(15-i)})
		x.Funcs = append(x.Funcs, api.Decl{Name: "f" + n, Params: params})
		x.Events = append(x.Events, api.Decl{Name: "f" + n, Params: params})
	}
	wantTold(t, x, 0, api.OK)
	p, _, _ := types.Check(x)
	for i := range api.MaxDecls {
		if p.Maps[i].Value != recordOf(15-i) || len(p.Records[i].Types) != 12 || len(p.Funcs[i].Params) != 12 || p.Events[i].Params[11] != boolType {
			t.Errorf("%+v", p)
		}
	}
	for _, list := range []*[]api.Decl{&x.Records, &x.Maps, &x.Funcs, &x.Events} {
		whole := *list
		more := whole[0]
		more.Name += "x"
		*list = append(append([]api.Decl{}, whole...), more)
		wantTold(t, x, 0, api.ErrTypeTree)
		*list = whole
	}
	x.Records[15].Name, x.Records[15].At = "R14", 7
	wantTold(t, x, 7, api.ErrTypeTwice)
}

// P8.1, 1: a record's name, and its fields'.
func TestRecords(t *testing.T) {
	wantFaults(t, api.ErrTypeTwice, asItIs,
		"record P { x: int } @record P { x: int }", "record P { x: int } record Q { x: int } @record P { y: text }", "record P { x: int } record Q { x: int } @record Q { y: text } record P { x: int }",
		"@record P { x: int, x: int }", "@record P { x: int, x: text }", "@record P { x: int, y: int, x: int }", "record A { x: int } @record P { x: int, y: int, y: bool } record P { z: int }",
		"record P { x: int } @record P { y: int, y: int }", "on e() { } @record P { a: int, b: int, b: int } map m: int -> Q;",
	)
	wantAllTaken(t, asItIs, "record P { x: int } record Q { x: int }", "record P { m: int, f: text, e: bool } map m: int -> int; fn f() { } on e() { }", "record P { x: int } record Pp { x: int } record PP { x: int, xx: int }", "record Int { x: int } record Text { x: text } record None { x: bool } map m: int -> None; fn f(a: Int) -> Text { return Text{x: \"\"}; }")
}

// P8.1, 2: a map's name, and the record that is its value.
func TestMaps(t *testing.T) {
	wantFaults(t, api.ErrTypeTwice, asItIs,
		"map m: int -> int; @map m: int -> int;", "map m: int -> int; map n: int -> int; @map m: text -> bool;", "map m: int -> int; @map m: int -> B;", "map m: int -> int; @map m: int -> int; map b: int -> B;",
	)
	wantFaults(t, api.ErrTypeName, asItIs,
		"@map m: int -> B;", "record P { x: int } @map m: int -> Pp;", "map a: int -> int; @map b: text -> P; map a: int -> int;", "@map a: int -> P; map a: int -> int;", "@map a: int -> Int; record INT { x: int }", "@map a: text -> None;",
	)
	wantAllTaken(t, asItIs, "map m: int -> P; record P { x: int }", "map f: int -> int; fn f() { } on f() { }", "map m: int -> int; map mm: int -> int; map m_: text -> text;")
}

// P8.1, 3: the names of functions and handlers, and of their params.
func TestFuncsAndEvents(t *testing.T) {
	for _, word := range []string{"fn", "on"} {
		wrap := func(s string) string { return strings.ReplaceAll(s, "fn", word) }
		wantFaults(t, api.ErrTypeTwice, wrap,
			"fn f() { } @fn f() { }", "fn f() { } fn g() { } @fn f(a: int) { }", "fn f() { } @fn f(a: B) { }", "fn f() { } @fn f() { } fn g(a: int, a: int) { }",
			"@fn f(a: int, a: int) { }", "@fn f(a: int, a: text) { }", "@fn f(a: int, b: int, a: int) { }", "@fn f(a: B, a: B) { }", "fn g(a: int) { } @fn f(b: int, a: int, a: int) { }",
			"map a: int -> int; @fn f(a: int) { }", "@fn f(a: int) { } map a: int -> int;", "map b: int -> int; map a: int -> int; @fn f(c: int, a: B) { }", "map a: text -> int; @fn f(z: B, y: int, a: int) { }",
		)
		wantFaults(t, api.ErrTypeName, wrap,
			"@fn f(a: B) { }", "@fn f(a: int, b: B) { }", "record A { x: int } @fn f(a: A, b: B) { }", "@fn f(a: Int) { }", "fn g() { } @fn f(a: B) { } fn g() { }", "@fn f(f: F) { }",
		)
		wantAllTaken(t, wrap, "fn f(f: int) { }", "fn f(a: int) { } fn g(a: text) { }", "fn f(m: int) { } fn m() { }", "record P { x: int } fn f(x: P) { }", "fn f(a: P, b: int, c: text, d: bool) { } record P { a: int }", "fn f(a: int) { } fn ff(aa: int, a_: int) { }")
	}
	wantFaults(t, api.ErrTypeName, asItIs, "@fn f() -> B { }", "@fn f(a: int) -> B { return a; }", "record A { x: int } @fn f(a: A) -> B { return a; }")
	wantFaults(t, api.ErrTypeTwice, asItIs, "@fn f(a: int, a: int) -> B { }", "map m: int -> int; @fn f(m: int) -> B { }", "fn f() { } @fn f() -> B { }")
	wantAllTaken(t, asItIs, "fn e() { } on e() { }", "on e() { } fn e() { } fn f(e: int) { } on f(e: int) { }")
}

// P8.1: records ahead of maps, of functions, of handlers, wherever they stand; all these ahead of bodies, functions' ahead of handlers'.
func TestOrderOfDeclarations(t *testing.T) {
	faults := []struct {
		source string
		err    api.Errno
	}{
		{"record Z { x: int, x: int }", api.ErrTypeTwice}, {"map z: int -> Nope;", api.ErrTypeName}, {"fn za(a: Nope) { }", api.ErrTypeName}, {"on zb(a: int, a: int) { }", api.ErrTypeTwice}, {"fn zc() { emit 1; }", api.ErrTypeType}, {"on zd() { do nope; }", api.ErrTypeName},
	}
	places := map[int]int{4: len("fn zc() { emit "), 5: len("on zd() { do ")}
	for i, first := range faults {
		place := func(source string) string { return source[:places[i]] + "@" + source[places[i]:] }
		wantFault(t, head+place(first.source), first.err)
		for _, second := range faults[i+1:] {
			wantFault(t, place(first.source)+" "+second.source+head, first.err)
			wantFault(t, second.source+" "+head+place(first.source), first.err)
		}
	}
	wantFaults(t, api.ErrTypeType, asItIs, "fn a() { emit @1; } fn b() { emit 2; }", "on a() { emit @1; } on b() { emit 2; }", "on a() { emit 1; } fn b() { emit @2; }", "on a() { return 1; } fn b() { } fn c() { emit @2; }")
	wantFaults(t, api.ErrTypeReturn, asItIs, "@fn a() -> int { } fn b() { emit 2; }", "on a() { emit 1; } @fn b() -> int { do b(); }", "fn a() { @return 1; } fn b() -> int { }")
}

// P8.1: what is no tree, whatever else is wrong with it; At isn't looked at.
func TestNoTrees(t *testing.T) {
	good := api.Stmt{Kind: api.SEmit, Args: []api.Expr{{Kind: api.EText, At: 5}}, At: 4}
	bad := api.Stmt{Kind: api.SDo, Args: []api.Expr{{Kind: api.EVar, Name: "nope", At: 9}}, At: 8}
	for i, x := range []api.Tree{
		{Records: make([]api.Decl, 1)}, {Maps: make([]api.Decl, 1)}, {Funcs: make([]api.Decl, 1)}, {Events: make([]api.Decl, 1)},
		{Records: []api.Decl{{Name: "P", At: 3}}}, {Records: []api.Decl{{Name: "p", Params: []api.Param{{Name: "x", Type: "int"}}}}}, {Records: []api.Decl{{Name: "P", Params: []api.Param{{Name: "x", Type: "P"}}}}},
		{Maps: []api.Decl{{Name: "m", Key: "bool", Value: "int"}}}, {Maps: []api.Decl{{Name: "m", Key: "int", Value: ""}}}, {Maps: []api.Decl{{Name: "m", Key: "int", Value: "small"}}}, {Maps: []api.Decl{{Name: "if", Key: "int", Value: "int"}}},
		{Funcs: []api.Decl{{Name: "f", Result: "none"}}}, {Events: []api.Decl{{Name: "e", Result: "int"}}}, {Events: []api.Decl{{Name: "e", Params: []api.Param{{Name: "a"}}}}},
		{Events: []api.Decl{{Name: "e", Body: []api.Stmt{{}}}}}, {Events: []api.Decl{{Name: "e", Body: []api.Stmt{bad, {Kind: 99}}}}}, {Events: []api.Decl{{Name: "e", Body: []api.Stmt{bad, {Kind: api.SEmit}}}}},
		{Events: []api.Decl{{Name: "e", Body: []api.Stmt{bad, {Kind: api.SDo, Args: []api.Expr{{}}}}}}}, {Events: []api.Decl{{Name: "e", Body: []api.Stmt{bad, {Kind: api.SDo, Args: []api.Expr{{Kind: api.EBinary, Op: api.OAdd}}}}}}}, {Events: []api.Decl{{Name: "e", Body: []api.Stmt{bad, {Kind: api.SDo, Args: []api.Expr{{Kind: api.EBinary, Op: math.MinInt, Args: []api.Expr{{Kind: api.EInt}, {Kind: api.EInt}}}}}}}}},
		{Events: []api.Decl{{Name: "e", Body: []api.Stmt{bad, {Kind: api.SDo, Args: []api.Expr{{Kind: api.EMake, Name: "P", Names: []string{"x"}}}}}}}}, {Events: []api.Decl{{Name: "e", Body: []api.Stmt{bad}, At: 1}, {Name: "e", Body: []api.Stmt{{Kind: api.SWhile, Body: []api.Stmt{{}}}}}}},
	} {
		wantTold(t, x, 0, api.ErrTypeTree)
		if i < 4 {
			continue
		}
		x.Events = append([]api.Decl{{Name: "ok", Body: []api.Stmt{good}, At: 2}}, x.Events...)
		wantTold(t, x, 0, api.ErrTypeTree)
	}
	wantTold(t, api.Tree{Events: []api.Decl{{Name: "e", Body: []api.Stmt{good, bad}, At: 1}}}, 9, api.ErrTypeName)
	wantTold(t, api.Tree{Events: []api.Decl{{Name: "e", Body: []api.Stmt{good}, At: -1}}}, 0, api.OK)
	wantTold(t, api.Tree{Maps: []api.Decl{{Name: "a", Key: "int", Value: "P", At: math.MinInt}}}, math.MinInt, api.ErrTypeName)
	wantTold(t, api.Tree{Maps: []api.Decl{{Name: "a", Key: "int", Value: "P", At: math.MaxInt}}}, math.MaxInt, api.ErrTypeName)
	wantTold(t, api.Tree{}, 0, api.OK)
}
