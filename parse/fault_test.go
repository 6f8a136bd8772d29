package parse_test

import (
	"strings"
	"testing"

	"windlass/api"
)

// nested: an opener some times, what stands within, and its other end as often.
func nested(count int, from, inner, to string) string {
	return strings.Repeat(from, count) + inner + strings.Repeat(to, count)
}

// P7.2: the error where a token can't stand, told by hand.
func TestWrongTokens(t *testing.T) {
	for source, at := range map[string]int{
		"x": 0, "1": 0, `"on"`: 0, "}": 0, "P { }": 0, "let x = 1;": 0, "on": 2, "on ": 3, "on # e\n": 7, "on on() { }": 3, "on E() { }": 3, "on 1() { }": 3, `on "e"() { }`: 3, "on e { }": 5, "on e[] { }": 4, "on e(": 5, "on e()": 6, "on e() ;": 7, "on e() -> int { }": 7, "on e() { } }": 11, "on e() { } x": 11,
		"on e(a) { }": 6, "on e(a:) { }": 7, "on e(a: b) { }": 8, "on e(a: 1) { }": 8, "on e(a: map) { }": 8, "on e(A: int) { }": 5, "on e(a: int,) { }": 12, "on e(a: int b: int) { }": 12, "on e(,) { }": 5, "on e(a: int; b: int) { }": 11, "on e(int) { }": 5,
		"record p { x: int }": 7, "record int { x: int }": 7, "record P": 8, "record P ( x: int )": 9, "record P { }": 11, "record P { x }": 13, "record P { x: }": 14, "record P { x: P }": 14, "record P { x: a }": 14, "record P { X: int }": 11, "record P { x: int, }": 19, "record P { x: int": 17, "record P { x: int };": 19, "record P { x: int; }": 17,
		"map M: int -> int;": 4, "map m int -> int;": 6, "map m: -> int;": 7, "map m: bool -> int;": 7, "map m: P -> int;": 7, "map m: int int;": 11, "map m: int - > int;": 11, "map m: int -> ;": 14, "map m: int -> p;": 14, "map m: int -> map;": 14, "map m: int -> int": 17, "map m: int -> int }": 18, "map m: int -> int; ;": 19,
		"fn F() { }": 3, "fn f { }": 5, "fn f( { }": 6, "fn f() ": 7, "fn f() -> { }": 10, "fn f() -> a { }": 10, "fn f() int { }": 7, "fn f() -> int": 13, "fn f() -> int ;": 14, "fn f() -> int, int { }": 13, "fn f() { ": 9,
	} {
		wantFault(t, source, at, api.ErrParse)
	}
	for statements, at := range map[string]int{
		"1;": 0, ";": 0, "{ }": 0, "P{x: 1};": 0, "P = 1;": 0, "P: while a { }": 0, "(a) = 1;": 0, `"a";`: 0, "-1;": 0, "not a;": 0, "f();": 1, "x;": 1, "x": 2, "x.f = 1;": 1, "x == 1;": 2, "x x = 1;": 2, "in = 1;": 0, "true;": 0, "on e() { }": 0, "else { }": 0,
		"x = ;": 4, "x = 1": 6, "x = 1,": 5, "x = 1 = 2;": 6, "x[1];": 4, "x[] = 1;": 2, "x[1 = 1;": 4, "x[1, 2] = 1;": 3, "x[1][1] = 1;": 4, "x[1] == 1;": 5, "x[1].f = 1;": 4, "x = y = 1;": 6,
		"x: if a { }": 3, "x: x: while a { }": 3, "x: { }": 3, "x: y = 1;": 3, "x: break;": 3, "x:": 3, "let = 1;": 4, "let if = 1;": 4, "let X = 1;": 4, "let x 1;": 6, "let x == 1;": 6, "let x: int = 1;": 5, "let x[1] = 1;": 5, "let x = let;": 8,
		"del m;": 5, "del M[1];": 4, "del m[1]": 9, "del m[];": 6, "del [1];": 4, "del m[1] = 1;": 9, "if { }": 3, "if a;": 4, "if a { } else ;": 14, "if a { } else while a { }": 14, "if a { } else x = 1;": 14, "if a { } else { } else { }": 18, "if a { };": 8, "if (a { }": 6, "if a) { }": 4, "if P { }": 7, "if a { } else if { }": 17, "if a { } else if": 17, "if a": 5,
		"while { }": 6, "while a b { }": 8, "while a;": 7, "while (a;": 8, "each in m { }": 5, "each k m { }": 7, "each k in { }": 10, "each K in m { }": 5, "each k in M { }": 10, "each k in m[1] { }": 11, "each k in m;": 11, "each k, v in m { }": 6, "each k in m.f { }": 11, "each k in 1 { }": 10,
		"break 1;": 6, "break L;": 6, "break": 6, "break l l;": 8, "break l.f;": 7, "break(l);": 5, "continue 1;": 9, "continue L;": 9, "continue while;": 9, "continue l": 11, "return": 7, "return 1": 9, "return 1, 2;": 8, "return return;": 7, "return }": 7,
		"emit;": 4, "emit 1": 7, "emit 1, 2;": 6, "do;": 2, "do f()": 7, "do x = 1;": 5, "after;": 5, "after e();": 9, "after 1;": 7, "after 1 e;": 9, "after 1 E();": 8, "after 1 e()": 12, "after 1, e();": 7, "after 1 e(1;": 11, "after 1 e(1,);": 12, "after 1 e[1];": 9, "after 1 1 e();": 8, "after 1 e().f;": 11, "after e(1) (2);": 11, `after 1 "e"();`: 8,
	} {
		wantFault(t, in(statements), inside+at, api.ErrParse)
	}
	for expr, at := range map[string]int{
		"": 0, ")": 0, "()": 1, "(a": 2, "(a, b)": 2, "a)": 1, "a b": 2, "a 1": 2, "1 a": 2, `"a" "b"`: 4, "a,": 1, "a or": 4, "or a": 0, "a or or b": 5, "a and": 5, "a and and b": 6, "a or and b": 5, "a ==": 4, "a == == b": 5, "a = b": 2, "a == b == c": 7, "a < b > c": 6, "a == b != c": 7, "a == (b == c) == d": 14, "a == b and c == d == e": 18, "a +": 3, "a * / b": 4, "a & & b": 4,
		"P": 1, "P{}": 2, "P(1)": 1, "P[1]": 1, "P.f": 1, "P{x}": 3, "P{x:}": 4, "P{x = 1}": 4, "P{x: 1,}": 7, "P{x: 1": 6, "P{X: 1}": 2, "P{1: 1}": 2, "P{x: 1; y: 2}": 6, "P{x: 1}{x: 1}": 7, "P{x: 1}(1)": 7, "P{x: 1 y: 1}": 7, "P{, x: 1}": 2,
		"a.": 2, "a.P": 2, "a.1": 2, "a..b": 2, "a.b(1)": 3, "a.b[1]": 3, ".a": 0, "a.if": 2, "a.(b)": 2, "a(": 2, "a(1": 3, "a(1,": 4, "a(1,)": 4, "a(,1)": 2, "a(1 2)": 4, "a(1;2)": 3, "a(1)(2)": 4, "a(1)[2]": 4, "a[]": 2, "a[1": 3, "a[1, 2]": 3, "a[1)": 3, "a[1][2]": 4, "a[1](2)": 4, "a(1]": 3,
		"len": 3, "len a": 4, "len()": 4, "len(a": 5, "len(a, b)": 5, "len[a]": 3, "str": 3, "str a": 4, "str()": 4, "str(a, b)": 5, "str(a": 5, "has": 3, "has m": 5, "has m(1)": 5, "has M[1]": 4, "has (m[1])": 4, "has m[]": 6, "has m[1": 7, "has m[1, 2]": 7, "has m[1][2]": 8, "has has m[1]": 4, "ask": 3, "ask p": 5, "ask p[1]": 5, "ask P(1)": 4, "ask p()": 6, "ask p(1, 2)": 7, "ask p(1": 7, `ask "p"(1)`: 4,
		"if": 0, "int": 0, "text": 0, "each": 0, "let": 0, "in": 0, "true(1)": 4, "true false": 5, "1(2)": 1, "1[2]": 1, `"a"(1)`: 3, `"a"[1]`: 3, "{ }": 0, "[1]": 0, "a -> b": 2, "a : b": 2,
	} {
		wantFault(t, let(expr), behindLet+at, api.ErrParse)
	}
}

// P7.2: the end of the source, behind blanks, lines and notes, is seen where it is.
func TestEndSeen(t *testing.T) {
	for _, source := range []string{"on", "on e", "on e(", "on e()", "on e() {", "on e() { x", "on e() { x =", "on e() { x = (", "on e() { x = 1", "on e() { x = 1;", "record", "record P {", "record P { x", "map m:", "fn f() ->", "on e() { if a { } else", "on e() { after", "on e() { each k", "on e() { l:", "on e() { x = P", "on e() { x = -", "on e() { x = a."} {
		for _, behind := range []string{"", " ", "\n\n", "\t# }\n", " # )", "#"} {
			wantFault(t, source+behind, len(source+behind), api.ErrParse)
		}
	}
}

// P7.2: lex's errors and places, of what stands behind another fault, too.
func TestLexFaults(t *testing.T) {
	for source, at := range map[string]int{"!": 0, in("x = ! 1;"): inside + 4, "on e() { } $": 11, "x x !": 4, "1 1 1 \\": 6, "on é() { }": 3, "x\x00": 1, strings.Repeat("on e() { } ", 17) + "~": 187, let("9223372036854775808 ?"): behindLet + 20} {
		wantFault(t, source, at, api.ErrLexByte)
	}
	for source, at := range map[string]int{`"`: 0, `x "`: 2, in(`emit "a;`): inside + 5, in(`emit "a"";`): inside + 5, `1 1 """`: 4} {
		wantFault(t, source, at, api.ErrLexOpen)
	}
	long := "on e() { }" + strings.Repeat(" ", api.MaxSource-10)
	wantRead(t, long)
	for _, source := range []string{long + " ", long + "!", "!" + long, strings.Repeat("x", api.MaxSource+1), strings.Repeat(`"`, api.MaxSource+1), strings.Repeat("(", 1<<20)} {
		wantFault(t, source, 0, api.ErrLexLong)
	}
	wantFault(t, "x"+strings.Repeat(" ", api.MaxSource-1), 0, api.ErrParse)
	wantFault(t, "on"+strings.Repeat(" ", api.MaxSource-2), api.MaxSource, api.ErrParse)
}

// smallSpots: sources with a ^ where a small name alone may stand.
func smallSpots() []string {
	return []string{
		"record P { ^: int }", "record P { a: int, ^: int }", "map ^: int -> int;", "fn ^() { }", "fn f(^: int) { }", "fn f(a: int, ^: int) { }", "on ^() { }", "on e(^: int) { }",
		in("let ^ = 1;"), in("^ = 1;"), in("^[1] = 1;"), in("del ^[1];"), in("^: while a { }"), in("^: each k in m { }"), in("each ^ in m { }"), in("each k in ^ { }"), in("break ^;"), in("continue ^;"), in("after 1 ^();"),
		let("a.^"), let("a.b.^.c"), let("P{^: 1}"), let("P{a: 1, ^: 1}"), let("has ^[1]"), let("ask ^(1)"),
	}
}

// exprSpots: where an expression may stand.
func exprSpots() []string {
	return []string{
		in("emit ^;"), in("if ^ { }"), in("while ^ { }"), in("return ^;"), in("after ^ e();"), in("do ^;"), in("a[^] = 1;"), in("a = ^;"), in("a[1] = ^;"), in("del a[^];"), in("after 1 e(a, ^);"),
		let("^"), let("^ + 1"), let("1 + ^"), let("1 * ^"), let("1 == ^"), let("a and ^"), let("a or ^"), let("f(^)"), let("f(1, ^)"), let("m[^]"), let("not ^"), let("-^"), let("len(^)"), let("(^)"), let("P{a: ^}"), let("^.f"),
	}
}

// greatSpots: where a great name alone may.
func greatSpots() []string { return append(typeSpots(), "record ^ { x: int }") }

func typeSpots() []string {
	return []string{"map m: int -> ^;", "fn f() -> ^ { }", "fn f(a: ^) { }", "fn f(a: int, b: ^) { }", "on e(a: ^) { }"}
}

// put puts a name in the place of the ^, and tells where it stands.
func put(spot, name string) (string, int) {
	return strings.Replace(spot, "^", name, 1), strings.Index(spot, "^")
}

// wantName: names that begin with a letter may stand there, if they aren't too long; more: what stands behind the name.
func wantName(t *testing.T, spot, letter, more string) {
	t.Helper()
	for _, name := range []string{letter, letter + "9_aZ", strings.Repeat(letter, 19), strings.Repeat(letter, 20)} {
		source, _ := put(spot, name+more)
		wantRead(t, source)
	}
	for _, name := range []string{strings.Repeat(letter, 21), letter + strings.Repeat("9", 20), strings.Repeat(letter, 64), strings.Repeat(letter, 2000)} {
		source, at := put(spot, name+more)
		wantFault(t, source, at, api.ErrParseName)
	}
}

// wantNoName: names that begin with a letter can't stand there, however long they are.
func wantNoName(t *testing.T, spot, letter string) {
	t.Helper()
	for _, count := range []int{1, 20, 21, 300} {
		source, at := put(spot, strings.Repeat(letter, count))
		wantFault(t, source, at, api.ErrParse)
	}
}

// P7.1, P7.2: names of 20 and of 21 bytes, small ones and great ones, wherever a name may stand; the other sort can't.
func TestNames(t *testing.T) {
	smalls, greats := []string{"a", "n", "z", "_"}, []string{"A", "N", "Z"}
	for _, small := range smalls {
		for _, spot := range smallSpots() {
			wantName(t, spot, small, "")
		}
		for _, spot := range exprSpots() {
			wantName(t, spot, small, "")
			wantName(t, spot, small, "(1)")
			wantName(t, spot, small, "[1]")
		}
		for _, spot := range greatSpots() {
			wantNoName(t, spot, small)
		}
	}
	for _, great := range greats {
		for _, spot := range greatSpots() {
			wantName(t, spot, great, "")
		}
		for _, spot := range exprSpots() {
			wantName(t, spot, great, "{x: 1}")
		}
		for _, spot := range smallSpots() {
			wantNoName(t, spot, great)
		}
	}
}

// P7.2: texts of 64 and of 65 bytes, as they are meant, not as they are written.
func TestTexts(t *testing.T) {
	for _, letter := range []string{"x", `""`, "\xff", "\n", "#"} {
		for _, count := range []int{0, 1, 63, 64} {
			meant := strings.Repeat(strings.ReplaceAll(letter, `""`, `"`), count)
			wantExpr(t, `"`+strings.Repeat(letter, count)+`"`, text(meant))
		}
		for _, count := range []int{65, 66, 128, 500} {
			long := `"` + strings.Repeat(letter, count) + `"`
			for expr, at := range map[string]int{long: 0, "a & " + long: 4, "f(" + long + ")": 2, "f(a, " + long + ")": 5, "m[" + long + "]": 2, "(" + long + ")": 1, "ask p(" + long + ")": 6, "P{x: " + long + "}": 5, "-" + long: 1} {
				wantFault(t, let(expr), behindLet+at, api.ErrParseName)
			}
			wantFault(t, in("emit "+long+";"), inside+5, api.ErrParseName)
			wantFault(t, in(long+";"), inside, api.ErrParse)
			wantFault(t, long, 0, api.ErrParse)
			wantFault(t, let("a "+long), behindLet+2, api.ErrParse)
		}
	}
	wantExpr(t, `"`+strings.Repeat("é", 32)+`"`, text(strings.Repeat("é", 32)))
	wantFault(t, let(`"`+strings.Repeat("é", 33)+`"`), behindLet, api.ErrParseName)
}

// rows: ahead of a row, one of its elements, behind it.
func rows() [][3]string {
	list := [][3]string{{"record P { ", "x: int", " }"}, {"fn f(", "x: P", ") -> int { }"}, {"on e(", "x: text", ") { }"}}
	for _, element := range []string{"a", "1 + 2", "-1", "- a", "(a)", "not a", "P{x: 1}", "g(1, 2)", `"a"`, "len(a)", "true", "has m[1]", "m[1]", "7"} {
		list = append(list, [3]string{begin + "do f(", element, "); }"}, [3]string{begin + "after 1 e(", element, "); }"}, [3]string{begin + "do P{", "x: " + element, "}; }"})
	}
	return append(list, [3]string{begin + "after f(1, 2, 3) e(", "a", "); }"}, [3]string{begin + "x = f(1, f(", "a", "), 2); }"}, [3]string{begin + "x[f(", "a", ")] = 1; }"})
}

// P7.2: rows of 12 elements and of 13, of each sort.
func TestItems(t *testing.T) {
	for _, row := range rows() {
		ahead, element, behind := row[0], row[1], row[2]
		for _, count := range []int{1, 2, 11, 12} {
			wantRead(t, ahead+commas(count, element)+behind)
		}
		full := ahead + commas(12, element) + ", "
		for _, count := range []int{13, 14, 40} {
			wantFault(t, ahead+commas(count, element)+behind, len(full), api.ErrParseMany)
		}
		for _, wrong := range []string{")", "}", ",", ";", "]", "if", "=", "", "->", "."} {
			wantFault(t, full+wrong, len(full), api.ErrParse)
		}
		wantFault(t, full+"# note\n\t"+element+behind, len(full+"# note\n\t"), api.ErrParseMany)
		wantFault(t, strings.TrimSuffix(full, ", "), len(full)-2, api.ErrParse)
	}
	twelve := commas(12, "a")
	wantRead(t, let("f("+commas(12, "f("+twelve+")")+")"))
	wantRead(t, in("after 1 e("+twelve+"); after 1 e("+twelve+");"))
	wantAtMark(t, let("f(f("+twelve+"), "+commas(11, "b")+", ^b)"), api.ErrParseMany)
	wantAtMark(t, let("f("+commas(11, "a")+", f("+twelve+", ^a"), api.ErrParseMany)
	wantRead(t, in(strings.Repeat("a = 1; ", 200))) // statements are no row
	wantRead(t, let("a"+strings.Repeat(" + a", 200)))
}

// P7.2: 16 declarations of each sort, and 17; all sorts beside each other.
func TestDecls(t *testing.T) {
	sorts := []string{"record P { x: int } ", "map m: int -> int; ", "fn f() { } ", "on e() { } "}
	all := ""
	for _, sort := range sorts {
		full := strings.Repeat(sort, 16)
		all += full
		wantRead(t, full)
		wantRead(t, strings.Repeat(sort, 15))
		wantFault(t, full+sort, len(full), api.ErrParseMany)
		wantFault(t, full+sort+sort, len(full), api.ErrParseMany)
		word, _, _ := strings.Cut(sort, " ")
		wantFault(t, full+word, len(full), api.ErrParseMany)
		wantFault(t, full+word+" 1", len(full), api.ErrParseMany)
		wantFault(t, full+"# "+word+"\n"+word, len(full+word)+3, api.ErrParseMany)
		wantFault(t, full+"x", len(full), api.ErrParse)
	}
	wantRead(t, all)
	mixed := strings.Repeat(strings.Join(sorts, ""), 16)
	wantRead(t, mixed)
	for _, sort := range sorts {
		wantFault(t, all+sort, len(all), api.ErrParseMany)
		wantFault(t, mixed+sort, len(mixed), api.ErrParseMany)
	}
}

// openers: what opens, and what closes it.
func openers() [][2]string {
	return [][2]string{{"(", ")"}, {"m[", "]"}, {"f(", ")"}, {"len(", ")"}, {"str(", ")"}, {"has m[", "]"}, {"ask p(", ")"}, {"P{x: ", "}"}, {"not ", ""}, {"- ", ""}, {"f(1, ", ")"}, {"P{x: 1, y: ", "}"}}
}

// opensAt: where in an opener its token stands.
func opensAt(opener string) int {
	return max(0, strings.IndexAny(opener, "([{"))
}

// P7.2: 40 open and 41, each sort by itself; a handler's own block is one of them.
func TestDepth(t *testing.T) {
	for _, o := range openers() {
		from, to := o[0], o[1]
		for _, count := range []int{1, 38, 39} {
			wantRead(t, let(nested(count, from, "a", to)))
			wantRead(t, let(nested(count, from, "a", to)+" or a"))
		}
		for _, count := range []int{40, 41, 60} {
			wantFault(t, let(nested(count, from, "a", to)), behindLet+39*len(from)+opensAt(from), api.ErrParseDeep)
		}
		wantRead(t, let(strings.Repeat(nested(39, from, "a", to)+" or ", 5)+"a")) // one behind the other
		for _, p := range openers() {
			if from == "- " && p[0] == "not " {
				continue // can't stand there
			}
			wantRead(t, let(nested(38, from, p[0]+"a"+p[1], to)))
			wantFault(t, let(nested(39, from, p[0]+"a"+p[1], to)), behindLet+39*len(from)+opensAt(p[0]), api.ErrParseDeep)
		}
	}
}

// P7.2: blocks, and expressions within them; those of declarations, too.
func TestDepthOfBlocks(t *testing.T) {
	for _, from := range []string{"while a { ", "l: while a { ", "each k in m { ", "if a { ", "if a { } else { ", "if a { } else if b { "} {
		wantRead(t, in(nested(39, from, "", "}")))
		for _, count := range []int{40, 41, 80} {
			wantFault(t, in(nested(count, from, "", "}")), inside+39*len(from)+strings.Index(from, "{"), api.ErrParseDeep)
		}
		full := nested(39, from, "x = ^;", "}")
		at := inside + 39*len(from) + len("x = ")
		for expr, place := range map[string]int{"(a)": 0, "f()": 1, "m[1]": 1, "P{x: 1}": 1, "not a": 0, "- a": 0, "- -1": 0, "len(a)": 3, "has m[1]": 5, "ask p(1)": 5, "1 - - a": 4, "a + f()": 5} {
			wantFault(t, in(strings.Replace(full, "^", expr, 1)), at+place, api.ErrParseDeep)
			wantRead(t, in(nested(38, from, "x = "+expr+";", "}")))
		}
		for _, expr := range []string{"-1", "a - 1", "1 - -1", "a - b", "a -% b", "-1 * -1", `"(" & "["`} {
			wantRead(t, in(strings.Replace(full, "^", expr, 1)))
		}
		wantFault(t, in(nested(39, from, "m[1] = 2;", "}")), inside+39*len(from)+1, api.ErrParseDeep)
		wantFault(t, in(nested(39, from, "del m[1];", "}")), inside+39*len(from)+5, api.ErrParseDeep)
		wantFault(t, in(nested(39, from, "after 1 e();", "}")), inside+39*len(from)+9, api.ErrParseDeep)
	}
	wantRead(t, in(strings.Repeat("if a { } else ", 100)+"if a { }")) // nothing more is open
	wantRead(t, "on e(a: int) { "+nested(39, "if a { ", "", "}")+"}") // the params' bracket is closed
	wantRead(t, "record P { x: int } fn f(a: int) -> P { "+nested(39, "if a { ", "", "}")+"}")
}

// P7.2: a literal's - doesn't count, and is no end of others.
func TestDepthOfLiterals(t *testing.T) {
	for _, o := range openers() {
		from, to := o[0], o[1]
		for _, inner := range []string{"-1", "- 1", "- # (\n1", "-0", "-9223372036854775808"} {
			wantRead(t, let(nested(39, from, inner, to)))
		}
		for _, inner := range []string{"- a", "- -1", "-(1)", "- len(a)"} {
			wantFault(t, let(nested(39, from, inner, to)), behindLet+39*len(from), api.ErrParseDeep)
		}
		for _, inner := range []string{"1 - 1", "a - b", "a - b - c -% d"} {
			if to != "" {
				wantRead(t, let(nested(39, from, inner, to)))
			}
		}
	}
	wantRead(t, let(nested(39, "(", "a - b - -1", ")")))
	wantRead(t, let(strings.Repeat("- ", 40)+"1"))
	wantFault(t, let(strings.Repeat("- ", 41)+"1"), behindLet+2*39, api.ErrParseDeep)
	wantRead(t, let(strings.Repeat("-", 40)+"1"))
	wantFault(t, let(strings.Repeat("-", 40)+"a"), behindLet+39, api.ErrParseDeep)
	wantFault(t, let(strings.Repeat("not ", 20)+strings.Repeat("-", 20)+"a"), behindLet+4*20+19, api.ErrParseDeep)
	wantRead(t, let(strings.Repeat("not ", 20)+strings.Repeat("-", 19)+"a"))
	wantRead(t, let(strings.Repeat("- a * ", 100)+"a")) // each is closed ahead of the *
	wantRead(t, let(strings.Repeat("not a and ", 100)+"a"))
}

// P7.2: of one token that is wrong in more than one way the first error in the chapter's order.
func TestFirstOfErrors(t *testing.T) {
	long, longGreat, longText, much := strings.Repeat("n", 21), strings.Repeat("N", 21), `"`+strings.Repeat("x", 65)+`"`, "9223372036854775808"
	twelve := "f(" + strings.Repeat("a, ", 12)
	parts := "P{" + strings.Repeat("x: 1, ", 12)
	deep := strings.Repeat("(", 39)
	for _, c := range []struct {
		expr string
		err  api.Errno
	}{
		{"a ^" + long, api.ErrParse}, {"a ^" + longGreat, api.ErrParse}, {"a ^" + longText, api.ErrParse}, {"a ^" + much, api.ErrParse}, {"a.^" + longGreat, api.ErrParse}, {"a.^" + much, api.ErrParse}, {"P{^" + longGreat, api.ErrParse}, {"P{^" + much, api.ErrParse}, {"has ^" + longText, api.ErrParse}, {"1 < 2 ^" + long, api.ErrParse}, {long[:20] + " ^" + long, api.ErrParse},
		{twelve + "^)", api.ErrParse}, {twelve + "^,", api.ErrParse}, {twelve + "^+ a", api.ErrParse}, {twelve + "^;", api.ErrParse}, {parts + "^}", api.ErrParse}, {parts + "^1", api.ErrParse}, {parts + "^P", api.ErrParse}, {parts + "^" + longGreat, api.ErrParse}, {parts + "^" + much, api.ErrParse},
		{deep + "a^(", api.ErrParseDeep}, {deep + "a^[", api.ErrParseDeep}, {deep + "1 ^(", api.ErrParse}, {deep + "1 ^[", api.ErrParse}, {deep + "a ^{", api.ErrParse}, {deep + "a + ^not a", api.ErrParse}, {deep + "^[", api.ErrParse}, {deep + "^{", api.ErrParse}, {deep + "P^(", api.ErrParse}, {deep + "P^{", api.ErrParseDeep}, {deep + "a == ^not", api.ErrParse},
		{twelve + "^" + long, api.ErrParseName}, {twelve + "^" + longGreat + "{x: 1}", api.ErrParseName}, {twelve + "^" + longText, api.ErrParseName}, {parts + "^" + long, api.ErrParseName}, {twelve + "^" + long + "(", api.ErrParseName}, {deep + "^" + long + "(1)", api.ErrParseName},
		{twelve + "^" + much, api.ErrParseInt}, {twelve + "^" + much + "0", api.ErrParseInt}, {twelve + "^-" + much + "0", api.ErrParseMany}, {twelve + "^- " + long, api.ErrParseMany}, {twelve + "^not " + long, api.ErrParseMany}, {twelve + "^(" + much, api.ErrParseMany},
	} {
		wantAtMark(t, let(c.expr), c.err)
	}
	filled := strings.Repeat("(", 38) + twelve // 40 are open with the handler's block
	for _, first := range []string{"(a)", "not a", "- a", "- (1)", "(", "not", "- -1"} {
		wantAtMark(t, let(filled+"^"+first), api.ErrParseMany)
	}
	for _, first := range []string{long, longGreat, longText} {
		wantAtMark(t, let(filled+"^"+first), api.ErrParseName)
	}
	wantAtMark(t, let(filled+"^"+much), api.ErrParseInt)
	wantAtMark(t, let(filled+"^)"), api.ErrParse)
	for _, source := range []string{"on e(" + strings.Repeat("a: int, ", 12), "fn f(" + strings.Repeat("a: P, ", 12), "record P { " + strings.Repeat("a: int, ", 12)} {
		wantAtMark(t, source+"^"+long, api.ErrParseName)
		wantAtMark(t, source+"^"+longGreat, api.ErrParse)
		wantAtMark(t, source+"^"+longText, api.ErrParse)
		wantAtMark(t, source+"^"+much, api.ErrParse)
		wantAtMark(t, source+"^a", api.ErrParseMany)
		wantAtMark(t, source+"^a: 1", api.ErrParseMany)
		wantAtMark(t, source+"^(", api.ErrParse)
	}
	wantAtMark(t, "on ^"+longGreat, api.ErrParse)
	wantAtMark(t, "record ^"+long, api.ErrParse)
	wantAtMark(t, "on e(a: ^"+long, api.ErrParse)
	wantAtMark(t, "record P { x: ^"+longGreat, api.ErrParse)
	wantAtMark(t, "map m: ^"+longGreat, api.ErrParse)
	wantAtMark(t, "^"+long, api.ErrParse)
	wantAtMark(t, in("^"+longGreat+" = 1;"), api.ErrParse)
	wantAtMark(t, in("break ^"+longGreat), api.ErrParse)
	wantAtMark(t, in("^"+much), api.ErrParse)
}

// wantAtMark: at the ^, which isn't part of the source.
func wantAtMark(t *testing.T, marked string, err api.Errno) {
	t.Helper()
	wantFault(t, strings.Replace(marked, "^", "", 1), strings.Index(marked, "^"), err)
}

// P7.2: of several tokens the first, whatever its error is.
func TestFirstFromTheLeft(t *testing.T) {
	faults := []struct {
		marked string
		err    api.Errno
	}{
		{"f(1 ^1)", api.ErrParse}, {"^" + strings.Repeat("n", 21), api.ErrParseName}, {`^"` + strings.Repeat("x", 65) + `"`, api.ErrParseName}, {"^9223372036854775808", api.ErrParseInt}, {"f(" + strings.Repeat("1, ", 12) + "^1)", api.ErrParseMany}, {strings.Repeat("- ", 39) + "^- a", api.ErrParseDeep},
	}
	for _, a := range faults {
		for _, b := range faults {
			wantAtMark(t, in("x = "+a.marked+"; y = "+strings.Replace(b.marked, "^", "", 1)+";"), a.err)
			wantAtMark(t, in("x = "+a.marked+" + "+strings.Replace(b.marked, "^", "", 1)+";"), a.err)
			wantAtMark(t, in("x = "+a.marked+";")+strings.Repeat(" on e() { }", 20), a.err)
			wantAtMark(t, in("x = "+a.marked+";")+" x", a.err)
		}
	}
}
