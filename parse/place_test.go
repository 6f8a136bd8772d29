package parse_test

import (
	"slices"
	"strings"
	"testing"

	"windlass/api"
	"windlass/parse"
)

// places: At of all that a tree has, each ahead of what is within it: the arguments, the body, what stands behind else.
func places(t api.Tree) []int {
	var list []int
	for _, decls := range [][]api.Decl{t.Records, t.Maps, t.Funcs, t.Events} {
		for _, d := range decls {
			list = append(append(list, d.At), stmtPlaces(d.Body)...)
		}
	}
	return list
}

func stmtPlaces(body []api.Stmt) []int {
	var list []int
	for _, s := range body {
		list = slices.Concat(list, []int{s.At}, exprPlaces(s.Args), stmtPlaces(s.Body), stmtPlaces(s.Else))
	}
	return list
}

func exprPlaces(args []api.Expr) []int {
	var list []int
	for _, e := range args {
		list = slices.Concat(list, []int{e.At}, exprPlaces(e.Args))
	}
	return list
}

// wantPlaces: each ^ of a marked source is a place, told as often as ^ stands there.
func wantPlaces(t *testing.T, marked string) {
	t.Helper()
	var want []int
	var source strings.Builder
	for _, b := range []byte(marked) {
		if b == '^' {
			want = append(want, source.Len())
		} else {
			source.WriteByte(b)
		}
	}
	got, _, err := parse.Parse(source.String())
	if list := places(got); err != api.OK || !slices.Equal(slices.Sorted(slices.Values(list)), want) {
		t.Errorf("%s: %d, %v, want %v", marked, err, list, want)
	}
}

// P7.3: where declarations, statements and expressions begin; of blanks, lines and notes nothing counts.
func TestPlaces(t *testing.T) {
	for _, marked := range []string{
		"", "^record P { x: int }", "^map m: int -> int;", "^fn f() { }", "^on e() { }", " \n^on e() { }\t# on\n ^record P { x: int } #\n\r\n^fn f(a: int) -> P { }^map m: int -> int;",
	} {
		wantPlaces(t, marked)
	}
	for _, marked := range []string{
		"^let a = ^1;", "^a = ^b;", "^a[^1] = ^b;", "^del a[^1];", "^if ^a { ^break; } else { ^break; }", "^if ^a { } else ^if ^b { } else ^if ^c { } else { ^break; }", "^while ^a { ^break; ^break; }", "^l: while ^a { }", " ^l : while ^a { ^l : each k in m { } }", "^each k in m { ^continue; }", "^l: each k in m { ^continue l; }", "^break l;", "^return;", "^return ^1;", "^return (^1);", "^emit ^a;", "^do ^f(^1, ^2);", "^after ^1 e();", "^after (^a) e(^1, (^2), ^b);",
		"^let a\n=\n^1\n;", "\t# let\n^let # a\n a # b\n = # c\n ^1 # d\n ; # e\n",
	} {
		wantPlaces(t, "^"+in(marked))
	}
	for _, marked := range []string{
		"^1", "^-1", "^- 1", "^-\n# a\n1", `^"a"`, "^true", "^false", "^a", "^- ^a", "^-(^1)", "^- ^- ^a", "^- ^-1", "^not ^a", "^not ^not ^a", "^len(^a)", "^str(^a)", "^has m[^a]", "^ask p(^a)", "^m[^a]", "^f()", "^f(^a, ^b)", "^P{x: ^1, y: ^b}",
		"(^a)", "( ( ^a ) )", "(^-1)", "((^- (^a)))", "(^not (^a))", "^^a.f", "^^^a.f.g", "(^a)", "(^^a).f", "((^^^a).f).g", "(^^a.f)", "^^m[^1].f", "^^P{x: ^1}.x", "(^^-1).f", "(^^- ^a).f", "^- ^^a.f", "^^has m[^1].f", "^^1.f",
		"^^a + ^b", "^^^a + ^b + ^c", "^^a + (^^b + ^c)", "(^^a + ^b)", "(^^^a + ^b) + ^c", "^^a + ^^b * ^c", "^^^a * ^b + ^c", "(^^a) + (^b)", "((^^a)) * ((^b))", "^^a == ^b", "^^^a + ^b == ^^c + ^d", "^not ^^a == ^b", "^^a and ^not ^b", "^^not ^a and ^b", "^^not ^^a == ^b or ^c", "^^^a.f + ^^b.g", "(^^^^a + ^b).f * ^c", "^^-1 + ^-1", "^^- ^a + ^b", "^^a - ^b", "^^a - ^-1", "^^a -% ^- ^b",
		"\n\t^^a # x\n + # y\n ^b\r\n",
	} {
		wantPlaces(t, "^"+in("^let x = "+marked+";"))
		wantPlaces(t, "# é\n\t^"+in("^while (("+marked+")) { }"))
	}
}

// P7.3: places in their order within the tree, not in that of the source.
func TestPlacesInOrder(t *testing.T) {
	for source, want := range map[string][]int{
		"on e() { l: while (a + 1) == b.c { emit f(1); } }": {0, 9, 19, 19, 19, 23, 29, 29, 35, 40, 42},
		"on e() { } record P { x: int } on f() { return; }": {11, 0, 31, 40},
		in("m[a] = b;"):                          {0, 9, 11, 16},
		in("after a e(b, c);"):                   {0, 9, 15, 19, 22},
		in("if a { b = 1; } else { c = 2; }"):    {0, 9, 12, 16, 20, 32, 36},
		let("(1 - (2 - 3)).f"):                   {0, 9, 18, 18, 18, 23, 23, 27},
		let("not ((a or b)) and c"):              {0, 9, 17, 17, 23, 23, 28, 36},
		let("f(P{x: (1), y: -2}.x, - -3)"):       {0, 9, 17, 19, 19, 25, 32, 39, 41},
		"fn f() { } on e() { } fn g() { do 1; }": {0, 22, 31, 34, 11},
	} {
		got, _, err := parse.Parse(source)
		if list := places(got); err != api.OK || !slices.Equal(list, want) {
			t.Errorf("%s: %d, %v, want %v", source, err, list, want)
		}
	}
}
