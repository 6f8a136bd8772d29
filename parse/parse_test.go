package parse_test

import (
	"math"
	"slices"
	"strconv"
	"strings"
	"testing"

	"windlass/api"
)

// P7.1: each sort of declaration, in any order; those of one sort keep theirs.
func TestDeclarations(t *testing.T) {
	ints := []api.Param{{Name: "a", Type: "int"}, {Name: "b", Type: "text"}, {Name: "c", Type: "bool"}}
	all := append(slices.Clone(ints), api.Param{Name: "d", Type: "P"})
	leave := []api.Stmt{stmt(api.SReturn, "")}
	for source, want := range map[string]api.Tree{
		"": {}, " \n\t\r": {}, "# on e() { }": {}, "# a\n#b\n": {},
		"record P { a: int }":                                       {Records: []api.Decl{{Name: "P", Params: ints[:1]}}},
		"record P{a:int,b:text,c:bool}":                             {Records: []api.Decl{{Name: "P", Params: ints}}},
		"map m: int -> text;":                                       {Maps: []api.Decl{{Name: "m", Key: "int", Value: "text"}}},
		"map m:text->bool;map n:int->int;":                          {Maps: []api.Decl{{Name: "m", Key: "text", Value: "bool"}, {Name: "n", Key: "int", Value: "int"}}},
		"map m: int -> P;":                                          {Maps: []api.Decl{{Name: "m", Key: "int", Value: "P"}}},
		"fn f() { }":                                                {Funcs: []api.Decl{{Name: "f"}}},
		"fn f() -> int { return; }":                                 {Funcs: []api.Decl{{Name: "f", Result: "int", Body: leave}}},
		"fn f()->P{}fn f()->text{}fn f()->bool{}":                   {Funcs: []api.Decl{{Name: "f", Result: "P"}, {Name: "f", Result: "text"}, {Name: "f", Result: "bool"}}},
		"fn f(a: int, b: text, c: bool, d: P) { }":                  {Funcs: []api.Decl{{Name: "f", Params: all}}},
		"on e() { }":                                                {Events: []api.Decl{{Name: "e"}}},
		"on e(a: int, b: text, c: bool, d: P) { return; }":          {Events: []api.Decl{{Name: "e", Params: all, Body: leave}}},
		"on _(a:int){}":                                             {Events: []api.Decl{{Name: "_", Params: ints[:1]}}},
		"on e(){}map m:int->int;fn f(){}record P{a:int}":            {Records: []api.Decl{{Name: "P", Params: ints[:1]}}, Maps: []api.Decl{{Name: "m", Key: "int", Value: "int"}}, Funcs: []api.Decl{{Name: "f"}}, Events: []api.Decl{{Name: "e"}}},
		"fn b(){}on y(){}fn a(){}record P{a:int}on x(){}fn b(){}":   {Records: []api.Decl{{Name: "P", Params: ints[:1]}}, Funcs: []api.Decl{{Name: "b"}, {Name: "a"}, {Name: "b"}}, Events: []api.Decl{{Name: "y"}, {Name: "x"}}},
		"record Q { a: int } record P { a: int } record Q{a: int}#": {Records: []api.Decl{{Name: "Q", Params: ints[:1]}, {Name: "P", Params: ints[:1]}, {Name: "Q", Params: ints[:1]}}},
	} {
		wantBare(t, source, want)
	}
}

// P7.1: each sort of statement, by itself and all one behind the other.
func TestStatements(t *testing.T) {
	x, one := variable("x"), integer(1)
	leave := stmt(api.SBreak, "")
	cases := []struct {
		source string
		want   api.Stmt
	}{
		{"let a = 1;", stmt(api.SLet, "a", one)}, {"a = x;", stmt(api.SSet, "a", x)}, {"a[1] = x;", stmt(api.SPut, "a", one, x)}, {"a[x]=1;", stmt(api.SPut, "a", x, one)}, {"del a[x];", stmt(api.SDel, "a", x)},
		{"if x { }", choice(x, nil, nil)}, {"if x { break; }", choice(x, []api.Stmt{leave}, nil)}, {"if x { } else { }", choice(x, nil, nil)},
		{"if x{}else{break;break;}", choice(x, nil, []api.Stmt{leave, leave})}, {"if x { break; } else { break; }", choice(x, []api.Stmt{leave}, []api.Stmt{leave})},
		{"if x { } else if 1 { break; }", choice(x, nil, []api.Stmt{choice(one, []api.Stmt{leave}, nil)})},
		{"if x { } else { if 1 { break; } }", choice(x, nil, []api.Stmt{choice(one, []api.Stmt{leave}, nil)})},
		{"if x { } else if 1 { } else if x { } else { break; }", choice(x, nil, []api.Stmt{choice(one, nil, []api.Stmt{choice(x, nil, []api.Stmt{leave})})})},
		{"if x { if 1 { } } else { break; }", choice(x, []api.Stmt{choice(one, nil, nil)}, []api.Stmt{leave})},
		{"if x { if 1 { } else { break; } }", choice(x, []api.Stmt{choice(one, nil, []api.Stmt{leave})}, nil)},
		{"if P{a: 1} { }", choice(record("P", []string{"a"}, one), nil, nil)}, {"if a { a = 1; }", choice(variable("a"), []api.Stmt{stmt(api.SSet, "a", one)}, nil)},
		{"while x { }", loop("", x)}, {"while x { break; break; }", loop("", x, leave, leave)}, {"l: while x { }", loop("l", x)}, {"l:while x{l:while 1{}}", loop("l", x, loop("l", one))},
		{"each k in m { }", each("", "k", "m")}, {"each k in m { break; }", each("", "k", "m", leave)}, {"l: each k in m { }", each("l", "k", "m")}, {"k : each k in k { break; }", each("k", "k", "k", leave)},
		{"break;", leave}, {"break l;", stmt(api.SBreak, "l")}, {"continue;", stmt(api.SContinue, "")}, {"continue l;", stmt(api.SContinue, "l")},
		{"return;", stmt(api.SReturn, "")}, {"return x;", stmt(api.SReturn, "", x)}, {"return -1;", stmt(api.SReturn, "", integer(-1))}, {"return(x);", stmt(api.SReturn, "", x)},
		{"emit x;", stmt(api.SEmit, "", x)}, {"do x;", stmt(api.SDo, "", x)}, {"do f(x);", stmt(api.SDo, "", named(api.ECall, "f", x))},
		{"after 1 e();", stmt(api.SAfter, "e", one)}, {"after x e(1);", stmt(api.SAfter, "e", x, one)}, {"after 1 e(x, 1, x);", stmt(api.SAfter, "e", one, x, one, x)},
		{"after f() e();", stmt(api.SAfter, "e", named(api.ECall, "f"))}, {"after 1 + x e(1 + x);", stmt(api.SAfter, "e", binary(api.OAdd, one, x), binary(api.OAdd, one, x))}, {"after(1)e((x));", stmt(api.SAfter, "e", one, x)}, {"after x.f e();", stmt(api.SAfter, "e", field(x, "f"))},
	}
	var sources []string
	var wants []api.Stmt
	for _, c := range cases {
		wantBare(t, in(c.source), handler(c.want))
		wantBare(t, in(c.source+c.source), handler(c.want, c.want))
		wantBare(t, in("while x {"+c.source+"}"), handler(loop("", x, c.want)))
		wantBare(t, "fn f() {"+c.source+"}", api.Tree{Funcs: []api.Decl{{Name: "f", Body: []api.Stmt{c.want}}}})
		sources, wants = append(sources, c.source), append(wants, c.want)
	}
	wantBare(t, in(strings.Join(sources, "\n")), handler(wants...))
	slices.Reverse(sources)
	slices.Reverse(wants)
	wantBare(t, in(strings.Join(sources, "")), handler(wants...))
}

// P7.1: each primary, with fields behind it, in brackets and not.
func TestPrimaries(t *testing.T) {
	x, one := variable("x"), integer(1)
	for source, want := range map[string]api.Expr{
		"1": one, "0": integer(0), "x": x, `"a"`: text("a"), `""`: text(""), `"a""b"`: text(`a"b`), `"("`: text("("), "true": truth(1), "false": truth(0),
		"len(x)": unary(api.OLen, x), "str ( x )": unary(api.OStr, x), "len(len(x))": unary(api.OLen, unary(api.OLen, x)), "len(x + 1)": unary(api.OLen, binary(api.OAdd, x, one)),
		"has m[x]": named(api.EHas, "m", x), "ask p(x)": named(api.EAsk, "p", x), "m[x]": named(api.EGet, "m", x), "m[m[x]]": named(api.EGet, "m", named(api.EGet, "m", x)),
		"f()": named(api.ECall, "f"), "f(x)": named(api.ECall, "f", x), "f(x, 1)": named(api.ECall, "f", x, one), "f(f(), f(x))": named(api.ECall, "f", named(api.ECall, "f"), named(api.ECall, "f", x)),
		"P{a: x}": record("P", []string{"a"}, x), "P { a:x,b:1 }": record("P", []string{"a", "b"}, x, one), "P{a: P{a: x}}": record("P", []string{"a"}, record("P", []string{"a"}, x)), "P{a: x, a: x}": record("P", []string{"a", "a"}, x, x),
	} {
		wantExpr(t, source, want)
		wantExpr(t, "("+source+")", want)
		wantExpr(t, "( ( "+source+" ) )", want)
		wantExpr(t, source+".f", field(want, "f"))
		wantExpr(t, source+" . f\n.g", field(field(want, "f"), "g"))
		wantExpr(t, "(("+source+").f).g.h", field(field(field(want, "f"), "g"), "h"))
		wantExpr(t, "not "+source, unary(api.ONot, want))
		wantExpr(t, "-("+source+")", unary(api.ONeg, want))
		wantExpr(t, source+"-"+source, binary(api.OSub, want, want))
		wantExpr(t, source+" and "+source, binary(api.OAnd, want, want))
	}
}

// levels: the signs of each, the loosest first, in the order of api's operators.
func levels() [][]string {
	return [][]string{{"or"}, {"and"}, {"==", "!=", "<", "<=", ">", ">="}, {"+", "-", "+%", "-%", "&"}, {"*", "*%", "/", "%"}}
}

func operators() map[string]int {
	return map[string]int{"+": api.OAdd, "-": api.OSub, "*": api.OMul, "+%": api.OWAdd, "-%": api.OWSub, "*%": api.OWMul, "/": api.ODiv, "%": api.OMod, "&": api.OCat, "==": api.OEq, "!=": api.ONe, "<": api.OLt, "<=": api.OLe, ">": api.OGt, ">=": api.OGe, "and": api.OAnd, "or": api.OOr}
}

// P7.1: each two operators: the tighter one first, of one level the left one; of two tests none.
func TestOperators(t *testing.T) {
	a, b, c := variable("a"), variable("b"), variable("c")
	ops := operators()
	for level, signs := range levels() {
		for _, sign := range signs {
			wantExpr(t, "a "+sign+" b", binary(ops[sign], a, b))
			for other, others := range levels() {
				for _, second := range others {
					source := "a " + sign + " b " + second + " c"
					left := binary(ops[second], binary(ops[sign], a, b), c)
					right := binary(ops[sign], a, binary(ops[second], b, c))
					switch {
					case level == 2 && other == 2:
						wantFault(t, let(source), behindLet+len("a "+sign+" b "), api.ErrParse)
					case level < other:
						wantExpr(t, source, right)
					default:
						wantExpr(t, source, left)
					}
					wantExpr(t, "(a "+sign+" b) "+second+" c", left)
					wantExpr(t, "a "+sign+" (b "+second+" c)", right)
				}
			}
		}
	}
}

// P7.1: rows of one sort stand to the left, however long they are.
func TestLongRows(t *testing.T) {
	for level, signs := range levels() {
		if level == 2 {
			continue
		}
		source, want := "x", variable("x")
		for i := range 400 {
			sign := signs[i*7/3%len(signs)]
			source += " " + sign + " y"
			want = binary(operators()[sign], want, variable("y"))
		}
		wantExpr(t, source, want)
	}
	want := variable("x")
	for range 1500 {
		want = field(want, "f")
	}
	wantExpr(t, "x"+strings.Repeat(".f", 1500), want)
	var last []api.Stmt
	for range 200 {
		last = []api.Stmt{choice(variable("x"), nil, last)}
	}
	wantBare(t, in(strings.Repeat("if x { } else ", 199)+"if x { }"), handler(last...))
}

// P7.1: not reaches over a test, - over a factor.
func TestUnary(t *testing.T) {
	a, b := variable("a"), variable("b")
	for source, want := range map[string]api.Expr{
		"not a": unary(api.ONot, a), "not not a": unary(api.ONot, unary(api.ONot, a)), "not a == b": unary(api.ONot, binary(api.OEq, a, b)), "(not a) == b": binary(api.OEq, unary(api.ONot, a), b), "a == (not b)": binary(api.OEq, a, unary(api.ONot, b)),
		"not a and b": binary(api.OAnd, unary(api.ONot, a), b), "a and not b": binary(api.OAnd, a, unary(api.ONot, b)), "not a or not b": binary(api.OOr, unary(api.ONot, a), unary(api.ONot, b)), "not (a or b)": unary(api.ONot, binary(api.OOr, a, b)), "not not a and b": binary(api.OAnd, unary(api.ONot, unary(api.ONot, a)), b),
		"not a + b": unary(api.ONot, binary(api.OAdd, a, b)), "not -a": unary(api.ONot, unary(api.ONeg, a)), "not -1": unary(api.ONot, integer(-1)), "not a.f": unary(api.ONot, field(a, "f")), "(not a).f": field(unary(api.ONot, a), "f"),
		"-a": unary(api.ONeg, a), "- -a": unary(api.ONeg, unary(api.ONeg, a)), "--a": unary(api.ONeg, unary(api.ONeg, a)), "-a + b": binary(api.OAdd, unary(api.ONeg, a), b), "a - b": binary(api.OSub, a, b), "a - -b": binary(api.OSub, a, unary(api.ONeg, b)), "a -- b": binary(api.OSub, a, unary(api.ONeg, b)), "a -% -b": binary(api.OWSub, a, unary(api.ONeg, b)),
		"-a * b": binary(api.OMul, unary(api.ONeg, a), b), "a * -b": binary(api.OMul, a, unary(api.ONeg, b)), "-(a * b)": unary(api.ONeg, binary(api.OMul, a, b)), "-a.f": unary(api.ONeg, field(a, "f")), "(-a).f": field(unary(api.ONeg, a), "f"), "-f(a)": unary(api.ONeg, named(api.ECall, "f", a)), "-m[a]": unary(api.ONeg, named(api.EGet, "m", a)), "-a == -b": binary(api.OEq, unary(api.ONeg, a), unary(api.ONeg, b)),
		`-"a"`: unary(api.ONeg, text("a")), "-true": unary(api.ONeg, truth(1)), "-len(a)": unary(api.ONeg, unary(api.OLen, a)), "-has m[a]": unary(api.ONeg, named(api.EHas, "m", a)), "-ask p(a).f": unary(api.ONeg, field(named(api.EAsk, "p", a), "f")), "-P{f: a}.f": unary(api.ONeg, field(record("P", []string{"f"}, a), "f")),
	} {
		wantExpr(t, source, want)
	}
	for source, place := range map[string]int{"a == not b": 5, "not a == not b": 9, "a + not b": 4, "a * not b": 4, "-not a": 1, "not": 3, "-": 1, "- -": 3, "a not b": 2, "a.not": 2, "not and a": 4, "-+a": 1, "+a": 0, "a + + b": 4, "a -% % b": 5, "-%a": 0, "- * a": 2} {
		wantFault(t, let(source), behindLet+place, api.ErrParse)
	}
}

// P7.1: a - right ahead of an int, whatever stands between, makes a literal where a factor stands.
func TestLiteralsBelowZero(t *testing.T) {
	a, five := variable("a"), integer(-5)
	for source, want := range map[string]api.Expr{
		"-5": five, "- 5": five, "-\n\t5": five, "- # a\n5": five, "-005": five, "-0": integer(0), "-00": integer(0), "(-5)": five, "((- 5))": five,
		"- -5": unary(api.ONeg, five), "--5": unary(api.ONeg, five), "---5": unary(api.ONeg, unary(api.ONeg, five)), "-(-5)": unary(api.ONeg, five), "-(5)": unary(api.ONeg, integer(5)), "-((5))": unary(api.ONeg, integer(5)), "- (5)": unary(api.ONeg, integer(5)), "-(5).f": unary(api.ONeg, field(integer(5), "f")), "-(5.f)": unary(api.ONeg, field(integer(5), "f")), "(-5).f": field(five, "f"), "5.f": field(integer(5), "f"),
		"a-5": binary(api.OSub, a, integer(5)), "a -5": binary(api.OSub, a, integer(5)), "a - -5": binary(api.OSub, a, five), "a--5": binary(api.OSub, a, five), "a+-5": binary(api.OAdd, a, five), "a -%-5": binary(api.OWSub, a, five), "-5-5": binary(api.OSub, five, integer(5)), "-5 - -5": binary(api.OSub, five, five), "-5+a": binary(api.OAdd, five, a), "1 -5 -5": binary(api.OSub, binary(api.OSub, integer(1), integer(5)), integer(5)),
		"-5*a": binary(api.OMul, five, a), "a*-5": binary(api.OMul, a, five), "a/ -5 %-5": binary(api.OMod, binary(api.ODiv, a, five), five), "a - 5 * -5": binary(api.OSub, a, binary(api.OMul, integer(5), five)), "-5 == -5": binary(api.OEq, five, five), "a<-5": binary(api.OLt, a, five), "a>-5": binary(api.OGt, a, five), "not -5": unary(api.ONot, five), "-5 and -5": binary(api.OAnd, five, five), "f(-5, a -5)": named(api.ECall, "f", five, binary(api.OSub, a, integer(5))), "m[-5]": named(api.EGet, "m", five), "P{f: -5}": record("P", []string{"f"}, five), "len(-5)": unary(api.OLen, five),
	} {
		wantExpr(t, source, want)
	}
	for source, place := range map[string]int{"-5.f": 2, "- 5 .f": 4, "a - -5.f": 6, "a * -5.f": 6, "- -5.f": 4, "-5 a": 3, "-5(a)": 2, "-5[a]": 2, "-5 5": 3, "-5 -": 4, "5 5": 2, "a*-5.f": 4} {
		wantFault(t, let(source), behindLet+place, api.ErrParse)
	}
	wantExpr(t, "a - 5.f", binary(api.OSub, a, field(integer(5), "f")))
}

// P7.1, P7.2: the greatest and the least numbers, and one past them, with noughts ahead and without.
func TestNumbers(t *testing.T) {
	most, past, far := "9223372036854775807", "9223372036854775808", "9223372036854775809"
	for _, noughts := range []string{"", "0", strings.Repeat("0", 300)} {
		for _, n := range []int64{0, 1, 7, 1 << 32, math.MaxInt64 - 1} {
			digits := noughts + strconv.FormatInt(n, 10)
			wantExpr(t, digits, integer(n))
			wantExpr(t, "-"+digits, integer(-n))
			wantExpr(t, "-("+digits+")", unary(api.ONeg, integer(n)))
		}
		wantExpr(t, noughts+most, integer(math.MaxInt64))
		wantExpr(t, "-"+noughts+most, integer(-math.MaxInt64))
		wantExpr(t, "-"+noughts+past, integer(math.MinInt64))
		wantExpr(t, "- "+noughts+past, integer(math.MinInt64))
		wantExpr(t, "--"+noughts+past, unary(api.ONeg, integer(math.MinInt64)))
		wantExpr(t, "1 - -"+noughts+past, binary(api.OSub, integer(1), integer(math.MinInt64)))
		for source, place := range map[string]int{
			past: 0, far: 0, most + "0": 0, strings.Repeat("9", 1000): 0, "18446744073709551616": 0, "18446744073709551617": 0, past + ".f": 0,
			"-" + far: 1, "- " + far: 2, "-" + past + "0": 1, "--" + far: 2, "-18446744073709551615": 1, "-18446744073709551616": 1, "-" + strings.Repeat("9", 1000): 1,
			"-(" + past: 2, "1-" + past: 2, "1 - " + past: 4, "1 - -" + far: 5, "f(1, " + past: 5, "(" + past: 1, "m[" + past: 2, "a + " + past: 4, "a * -" + far: 5, "not " + past: 4, "len(" + past: 4, "P{a: " + past: 5,
		} {
			digits := strings.IndexAny(source, "0123456789")
			if strings.HasPrefix(source, "f(1") || strings.HasPrefix(source, "1") && place > 0 {
				digits = place
			}
			wantFault(t, let(source[:digits]+noughts+source[digits:]), behindLet+place, api.ErrParseInt)
		}
	}
}
