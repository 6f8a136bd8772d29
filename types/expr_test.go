package types_test

import (
	"strings"
	"testing"

	"windlass/api"
)

// do: an expression by itself, in a handler with a variable of each type.
func do(expr string) string { return in("do " + expr + ";") }

// let: likewise, where a value is wanted; and then all that a value of its type is good for is asked.
func let(rest string) func(string) string {
	return func(expr string) string { return in("let v = " + expr + "; " + rest) }
}

// good: what is taken of a value of a type, and of no other one.
var good = map[string]string{"int": "do v + 1;", "text": `do v & "";`, "bool": "do not v;", "P": "m[0] = v;", "Q": "do v.b;"}

// sorts: an expression of each type, and of none.
var sorts = []struct{ kind, expr string }{
	{"int", "i"}, {"int", "7"}, {"text", "w"}, {"text", `"a"`}, {"bool", "c"}, {"bool", "true"}, {"P", "r"}, {"Q", "z"}, {"none", "g()"},
}

// wantType: that an expression has this type, and none of the others.
func wantType(t *testing.T, expr, kind string) {
	t.Helper()
	wantTaken(t, do(expr))
	for other, use := range good {
		if other == kind {
			wantTaken(t, let(use)(expr))
			wantTaken(t, inFunc(other, "return "+expr+";"))
		} else {
			wantFault(t, inFunc(other, "return @"+expr+";"), api.ErrTypeType)
		}
	}
}

// P8.2: literals, variables, fields, records, maps, calls, outside calls: of which type each is.
func TestTypesOfExpressions(t *testing.T) {
	for kind, list := range map[string][]string{
		"int":  {"0", "-1", "i", "len(w)", "- i", "-(1)", "r.x", `n["a"]`, "m[1].x", "p(r, c).x", `P{x: 1, s: ""}.x`, "i + 1 * 2", `len("" & w)`},
		"text": {`""`, "w", "str(i)", "f(1)", "r.s", "m[i].s", "ask any(w)", `ask g("")`, "w & w", "p(m[0], true).s", "f(len(f(2)))"},
		"bool": {"true", "false", "c", "not c", "z.b", "has m[1]", "has n[w]", "i == 1", "w != w", "c == true", "w < w", "i >= 2", "c and c", "c or not c", "q().b", "has m[n[w]]"},
		"P":    {"r", "m[1]", "p(r, true)", `P{x: 1, s: ""}`, `P{s: "", x: 1}`, "m[m[1].x]"},
		"Q":    {"z", "q()", "Q{b: true}", "Q{b: q().b}"},
	} {
		for _, expr := range list {
			wantType(t, expr, kind)
		}
	}
}

// rules: what the chapter says of operators: the types of arguments, and what comes of them.
var rules = map[string]string{
	"+": "int int int", "-": "int int int", "*": "int int int", "+%": "int int int", "-%": "int int int", "*%": "int int int", "/": "int int int", "%": "int int int",
	"&": "text text text", "and": "bool bool bool", "or": "bool bool bool",
	"==": "int int bool, text text bool, bool bool bool", "!=": "int int bool, text text bool, bool bool bool",
	"<": "int int bool, text text bool", "<=": "int int bool, text text bool", ">": "int int bool, text text bool", ">=": "int int bool, text text bool",
}

// P8.2: each operator with each pair of types: which are taken, as what, and which argument is told of those that aren't.
func TestEachOperatorWithEachPair(t *testing.T) {
	if len(rules) != api.OOr {
		t.Fatalf("%d operators", len(rules))
	}
	for sign, rule := range rules {
		for _, left := range sorts {
			first := false // whether the left one may stand there
			for _, row := range strings.Split(rule, ", ") {
				first = first || strings.HasPrefix(row, left.kind+" ")
			}
			for _, right := range sorts {
				gives := ""
				for _, row := range strings.Split(rule, ", ") {
					if kind, ok := strings.CutPrefix(row, left.kind+" "+right.kind+" "); ok {
						gives = kind
					}
				}
				switch {
				case gives != "":
					wantType(t, left.expr+" "+sign+" "+right.expr, gives)
				case first:
					wantFault(t, do(left.expr+" "+sign+" @"+right.expr), api.ErrTypeType)
				default:
					wantFault(t, do("@"+left.expr+" "+sign+" "+right.expr), api.ErrTypeType)
				}
			}
		}
	}
}

// P8.2: operators of one argument.
func TestEachOperatorOfOne(t *testing.T) {
	for sign, rule := range map[string]string{"- (?)": "int int", "not ?": "bool bool", "len(?)": "text int", "str(?)": "int text"} {
		asked, gives, _ := strings.Cut(rule, " ")
		for _, s := range sorts {
			if s.kind == asked {
				wantType(t, strings.Replace(sign, "?", s.expr, 1), gives)
			} else {
				wantFault(t, do(strings.Replace(sign, "?", "@"+s.expr, 1)), api.ErrTypeType)
			}
		}
	}
}

// P8.2: what asks for one type of its argument, with each type.
func TestArgumentsOfOneType(t *testing.T) {
	for asks, asked := range map[string]string{
		"ask any(?)": "text", "m[?]": "int", "n[?]": "text", "has m[?]": "int", "has n[?]": "text", "f(?)": "int", "p(?, c)": "P", "p(r, ?)": "bool",
		`P{x: ?, s: ""}`: "int", `P{s: "", x: ?}`: "int", "P{x: 1, s: ?}": "text", "P{s: ?, x: 1}": "text", "Q{b: ?}": "bool",
	} {
		for _, s := range sorts {
			if s.kind == asked {
				wantTaken(t, do(strings.Replace(asks, "?", s.expr, 1)))
			} else {
				wantFault(t, do(strings.Replace(asks, "?", "@"+s.expr, 1)), api.ErrTypeType)
			}
		}
	}
	wantFaults(t, api.ErrTypeType, do, "p(@z, 1)", "p(@1, 1)", "p(r, @1)", `P{x: @"", s: 1}`, `P{s: @1, x: ""}`, `P{s: "", x: @w}`)
}

// P8.2: names that nothing has.
func TestNamesOfNothing(t *testing.T) {
	wantFaults(t, api.ErrTypeName, do, "@a", "@m", "@f", "@t", "@x", "@e", "@any", "i + @a", "@a + b", "w & @a", "not @a", "len(@a)", "(((@a)))", "@a.x", "f(@a)", "m[@a]", "has m[@a]", "ask any(@a)", `P{x: @a, s: ""}`,
		"@a()", "@m()", "@i()", "@t(1, w)", "@e(i, w, c, r, z)", "@a(1)", "1 + @a()", "@ask_()",
		"@a[1]", "@f[1]", "@i[1]", "@t[1]", "@has a[1]", "@has f[1]", "1 + @a[2]",
		"@A{x: 1}", "@R{x: 1}", "1 == @A{x: 1}", "@Int{x: 1}")
	wantFaults(t, api.ErrTypeName, do, "@r.y", "@r.b", "@z.x", "@m[1].y", "@p(r, c).b", `@P{x: 1, s: ""}.y`, "1 + @r.y", "@q().x")
	wantAllTaken(t, do, "ask m(w)", "ask i(w)", "ask nope(w)", "ask f(w)", "ask _(w)")
}

// P8.2: fields of what is no record.
func TestFieldsOfNoRecord(t *testing.T) {
	wantFaults(t, api.ErrTypeType, do, "@i.x", "@1.x", "@w.s", `@"".x`, "@c.b", "@g().x", "@r.x.x", "@f(1).x", "@n[w].x", "@q().b.b", "1 + @i.x", "(@i + 1).x", "(@-1).x")
}

// P8.2: a record's parts: in any order, one too few, one too many, one twice, one that isn't there.
func TestPartsOfRecords(t *testing.T) {
	const three = "record T { a: int, b: text, c: bool } "
	wrap := func(expr string) string { return three + do(expr) }
	for _, order := range []string{`a: 1, b: "", c: true`, `a: 1, c: true, b: ""`, `b: "", a: 1, c: true`, `b: "", c: true, a: 1`, `c: true, a: 1, b: ""`, `c: true, b: "", a: 1`} {
		wantTaken(t, wrap("T{"+order+"}"))
		wantFault(t, wrap("@T{"+order+", a: 1}"), api.ErrTypeCount)
		wantFault(t, wrap("@T{"+order+", d: 1}"), api.ErrTypeCount)
		wantFault(t, wrap("@T{"+strings.Replace(order, "c:", "d:", 1)+"}"), api.ErrTypeCount)
		wantFault(t, wrap("@T{"+strings.Replace(order, "a:", "c:", 1)+"}"), api.ErrTypeCount)
		wantFault(t, wrap("@T{"+strings.Replace(order, "a:", "b:", 1)+"}"), api.ErrTypeCount)
		wantFault(t, wrap("@T{"+order[:strings.LastIndex(order, ",")]+"}"), api.ErrTypeCount)
		for _, part := range []string{"1", `""`, "true"} {
			for _, other := range []string{"1", `""`, "true", "r", "g()"} {
				if other != part {
					wantFault(t, wrap("T{"+strings.Replace(order, part, "@"+other, 1)+"}"), api.ErrTypeType)
				}
			}
		}
	}
	wantFaults(t, api.ErrTypeCount, wrap, "@T{a: 1}", "@T{a: 1, a: 1, a: 1}", "@T{d: 1}", `@T{a: 1, b: "", c: true, a: 1, b: "", c: true}`, "1 + @P{x: 1}", "@Q{x: true}", "@Q{b: true, b: true}", "@P{x: 1, x: 2}")
	wantFaults(t, api.ErrTypeType, wrap, `T{c: @1, b: 2, a: 3}`, `T{c: true, b: @2, a: ""}`, `T{c: true, b: "", a: @true}`, `T{a: @"", b: "", c: 1}`)
}

// P8.2: how many arguments a call has.
func TestCountsOfArguments(t *testing.T) {
	wantFaults(t, api.ErrTypeCount, do, "@f()", "@f(1, 2)", "@f(1, 2, 3)", "@g(1)", "@g(g())", "@p(r)", "@p()", "@p(r, c, c)", "@q(z)", "1 + @f()", "f(len(@f()))")
	many := "fn k(" + strings.TrimSuffix(strings.Repeat("a?: int, ", 12), ", ") + ") { } "
	for i := range 12 {
		many = strings.Replace(many, "?", string(rune('a'+i)), 1)
	}
	for count := range 13 {
		call := "k(" + strings.TrimSuffix(strings.Repeat("i, ", count), ", ") + ")"
		if count == 12 {
			wantTaken(t, many+do(call))
		} else {
			wantFault(t, many+do("@"+call), api.ErrTypeCount)
		}
	}
}

// P8.2: what is told ahead of the arguments, though they have faults, and what behind all of them.
func TestAheadOfArgumentsAndBehind(t *testing.T) {
	wantFaults(t, api.ErrTypeName, do,
		"@A{x: nope}", "@A{x: 1 + w}", "@A{x: f()}", "@a[nope]", "@a[f()]", "@has a[1 + w]", "@a(nope)", "@a(f())", "@a(1 + w)",
		"m[@nope]", "f(@nope)", "p(1, @nope)", "p(@nope, 1)", "p(z, f(@nope))", "P{x: @nope}", "P{x: w, x: @nope}", "P{x: w, s: @nope}", "P{q: @nope, s: 1}", "ask a(@nope)", "w + @nope", "@nope + w", "r == @nope", "@r.y == z", "has n[@nope]", "has n[m[@nope]]", "g() + @nope", "w - @nope", "1 and @nope", "p(z, @nope).y", "@nope.y",
	)
	wantFaults(t, api.ErrTypeCount, do, "@f(nope, nope)", "@f()", "@g(nope)", "@p(1 + w)", "w + @f()", "@P{x: w}", "@P{x: w, x: w}", "@Q{nope: 1}", "p(1, @f())", "@p(f())", "P{x: @f(), s: 1}", "P{q: @g(1)}")
	wantFaults(t, api.ErrTypeType, do, "P{x: 1 + @w}", "f(1 + @w)", "p(1 + @w, nope)", "P{x: 1 + @w, s: nope}", "p(1, not @1)", "m[1 + @w]", "(1 + @w) + nope", "w + (1 + @w)", "p(@1, 1)", "P{q: 1 + @w}", "p(@z, c).y", "(1 + @w).y", "(@w + 1).y")
}
