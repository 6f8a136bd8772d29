package lower_test

import (
	"fmt"
	"math/rand"
	"slices"
	"strings"
	"testing"

	"windlass/api"
	"windlass/flow"
	"windlass/lower"
)

// measure: a function's variables, its statements and expressions, the most expressions of one statement, and how many statements, or expressions of one, stand one in the other.
func measure(d api.Decl) limits {
	m := limits{variables: len(d.Params)}
	m.add(d.Body, 1)
	return m
}

func (m *limits) add(list []api.Stmt, deep int) {
	for _, s := range list {
		if s.Kind == api.SLet || s.Kind == api.SEach {
			m.variables++
		}
		m.parts += 1 + size(s.Args)
		m.exprs = max(m.exprs, size(s.Args))
		m.deep = max(m.deep, deep, height(s.Args))
		m.add(s.Body, deep+1)
		m.add(s.Else, deep+1)
	}
}

func height(list []api.Expr) int {
	most := 0
	for _, e := range list {
		most = max(most, 1+height(e.Args))
	}
	return most
}

func (m limits) isWithin(most limits) bool {
	return m.variables <= most.variables && m.parts <= most.parts && m.exprs <= most.exprs && m.deep <= most.deep
}

// wantWithin: that a tree is within the bounds, and is taken; what its greatest function measures.
func wantWithin(t *testing.T, x api.Tree) (limits, api.Code) {
	t.Helper()
	var most limits
	for _, list := range [][]api.Decl{x.Funcs, x.Events} {
		for _, d := range list {
			m := measure(d)
			if !m.isWithin(bounds) {
				t.Fatalf("the test's own tree isn't within the bounds: %v: %s", m, printed(x))
			}
			most = limits{max(most.variables, m.variables), max(most.parts, m.parts), max(most.exprs, m.exprs), max(most.deep, m.deep)}
		}
	}
	return most, coded(t, x)
}

// repeated: the tree whose e has these statements so often that no more of them would be within 300 parts.
func repeated(t *testing.T, source, statements string) api.Tree {
	t.Helper()
	x := read(t, source+"on e(a: int, c: text, d: bool, r: Q) { "+statements+" }")
	e := &x.Events[len(x.Events)-1]
	once, each := e.Body, measure(*e).parts
	for range 300/each - 1 {
		e.Body = append(e.Body, once...)
	}
	return x
}

// P13.1: as many statements and expressions as may be, of each kind.
func TestManyOfEachKind(t *testing.T) {
	wide := "fn wide(a: int, b: int, c: int, d: int, e: int, f: int, g: int, h: int, i: int, j: int, k: int, l: int) -> int { return a; } on far_off(a: int, b: int, c: int, d: int, e: int, f: int, g: int, h: int, i: int, j: int, k: int, l: int) { } fn none() { } record W { a: int, b: int, c: int, d: int, e: int, f: int, g: int, h: int, i: int, j: int, k: int, l: int } "
	row := "1, 2, 3, 4, 5, 6, 7, 8, 9, 10, 11, 12"
	statements := []string{
		"a = 1;", "a = a;", "m[1] = 2;", "m[a] = a;", "del m[1];", "del m[a];", "if d { }", "if d { } else { emit c; }", "if d { return; } else { return; }", "if d { return; }", "if d { do none(); } else { do none(); }",
		"while d { }", "while true { }", "while d { break; }", "while d { continue; }", "while d { while d { while d { } } }", "while d { if d { break; } else { continue; } }", "return;", "emit c;", "emit \"\";", "after 1 u();", "after a v(a);", "after 1 far_off(" + row + ");", "do none();", "do a;", "do 1;", "do true;",
		"do wide(" + row + ");", "do W{a: 1, b: 2, c: 3, d: 4, e: 5, f: 6, g: 7, h: 8, i: 9, j: 10, k: 11, l: 12};", "do wide(a, a, a, a, a, a, a, a, a, a, a, a);", "d = d and d;", "d = d or d;", "d = d or d or d or d or d;", "d = true and (false or true) and not (true or false);", "if d or d { } else { emit \"\"; }", "while d or d { }",
		"a = a + a;", "a = 1 + 2 + 3;", "a = - - - - - a;", "d = not not not d;", "a = len(str(a));", "c = c & c;", "d = has m[m[m[a]]];", "c = ask port(ask port(c));", "r = q[r.a];", "r = Q{d: r.a, c: r.b, b: r.c, a: r.d};", "d = a == a;", "m[m[a]] = m[m[a]];", "do r.a;",
	}
	for _, s := range statements {
		x := repeated(t, head+wide, s)
		if _, c := wantWithin(t, x); len(c.Events[len(c.Events)-1].Ops) > api.MaxOps {
			t.Errorf("P13.1: %s", s)
		}
	}
	// An `each` has a variable: 20 of them, and 280 of what else needs the most.
	for _, body := range []string{"", "continue;", "k = 1;", "if d { break; }", "while d { }", "l: while d { continue; }"} {
		x := repeated(t, head, "while d { }")
		e := &x.Events[len(x.Events)-1]
		eaches := read(t, head+"on e(d: bool) { "+strings.Repeat("each k in w { "+strings.Replace(body, "1", "\"\"", 1)+" }", 16)+" }").Events[3].Body
		e.Body = append(eaches, e.Body...)
		for measure(*e).parts > 300 {
			e.Body = e.Body[:len(e.Body)-1]
		}
		wantWithin(t, x)
	}
	// Names may be used again, so that even a source may have as many: they are taken, too.
	for _, each := range []string{"each k in m{}", "each k in w{}"} {
		coded(t, read(t, "map m:int->int;map w:text->int;on e(){"+strings.Repeat(each, 300)+"}"))
	}
}

// fat: statements of up to 30 expressions, nested up to 12 deep, that want many registers at once.
func fat() []string {
	// right: operands of which each waits for all behind it.
	right := func(operands int, sign, last string) string {
		return strings.Repeat("1 "+sign+" (", operands-1) + last + strings.Repeat(")", operands-1)
	}
	call := func(last string) string { return "wide(1, 2, 3, 4, 5, 6, 7, 8, 9, 10, 11, " + last + ")" }
	record := func(first string) string {
		return "W{l: " + first + ", k: 1, j: 2, i: 3, h: 4, g: 5, f: 6, e: 7, d: 8, c: 9, b: 10, a: 11}"
	}
	texts := strings.ReplaceAll(right(11, "&", "\"\" & \"\""), "1", "\"\"")
	return []string{
		"do " + right(11, "+", "two(1, 2)") + ";", "m[" + right(7, "-", "two(1, 2)") + "] = " + right(7, "*", "two(3, 4)") + ";", "emit " + texts + ";", "emit str(" + right(10, "+", "two(1, 2)") + ");",
		"do " + call(call("two(1, two(1, - 2))")) + ";", "do " + call(call("two(1, two(- 1, 2))")) + ";", "m[1] = " + call(call("1 + (2 + 3)")) + ";", "let last = " + call(call("two(1, 2)")) + " - 1;",
		"do wide(two(1, two(1, two(1, two(1, two(1, two(1, two(1, two(1, 1)))))))), 2, 3, 4, 5, 6, 7, 8, 9, 10, 11, 12);", "do two(1, two(1, two(1, two(1, two(1, two(1, two(1, two(1, two(1, two(1, two(1, 2)))))))))));",
		"after " + call("12") + " far_off(1, 2, 3, 4, 5, 6, 7, 8, 9, two(1, 2), 11, two(1, 2));", "after " + right(4, "+", "1") + " far_off(1, 2, 3, 4, 5, 6, 7, 8, 9, 10, " + right(3, "+", "1") + ", " + right(4, "+", "1") + ");", "after 1 far_off(1, 2, 3, 4, 5, 6, 7, 8, 9, 10, 11, " + call("1 + (2 + 3)") + ");",
		"do " + record(record("two(1, two(1, 2))")+".a") + ";", "do " + record(call("1 + 2")) + ".a - 1;", "let last = " + record(call("1 + (2 + 3)")) + ";", "m[" + record("1") + ".a] = " + record("1") + ".a;",
		"do 1 == 2 and (3 == 4 or (5 == 6 and (7 == 8 or (9 == 10 and (11 == 12 or 1 == 2)))));", "do 1 == 1 and (2 == 2 and (3 == 3 and " + call("12") + " == 3));", "if 1 == 1 and (2 == 2 and (3 == 3 and " + call("12") + " == 3)) { }",
		"return;",
	}
}

const fatHead = `record W { a: int, b: int, c: int, d: int, e: int, f: int, g: int, h: int, i: int, j: int, k: int, l: int } map m: int -> int; map w: text -> int;
fn wide(a: int, b: int, c: int, d: int, e: int, f: int, g: int, h: int, i: int, j: int, k: int, l: int) -> int { return a - b + l; } fn two(a: int, b: int) -> int { return a * b; }
on far_off(a: int, b: int, c: int, d: int, e: int, f: int, g: int, h: int, i: int, j: int, k: int, l: int) { }
`

// P13.1: 20 variables, loops 12 deep, and within them a statement of 30 expressions.
func TestManyRegisters(t *testing.T) {
	most, regs := limits{}, 0
	for _, statement := range fat() {
		for _, loop := range []string{"each v%d in m { v%d = v%d + 1; ", "each v%d in m { ", "each v%d in w { v%d = v%d & \"x\"; ", "while true { let v%d = 1; v%d = v%d; ", "if true { let v%d = 1; "} {
			for loops := range 13 {
				var source strings.Builder
				source.WriteString(fatHead + "on e() { ")
				variables := 20
				if strings.Contains(statement, "let") {
					variables--
				}
				for i := loops; i < variables; i++ {
					fmt.Fprintf(&source, "let u%d = %d; ", i, i)
				}
				for i := range loops {
					source.WriteString(strings.ReplaceAll(loop, "%d", fmt.Sprint(i)))
				}
				x := read(t, source.String()+statement+strings.Repeat(" }", loops)+" }")
				m, c := wantWithin(t, x)
				most = limits{max(most.variables, m.variables), max(most.parts, m.parts), max(most.exprs, m.exprs), max(most.deep, m.deep)}
				one := api.State{Maps: [][]api.Entry{{{Key: numbered(1), Value: numbered(5)}}, {{Key: texted("a"), Value: numbered(5)}}}}
				for _, s := range []api.State{blank(c.Program), one} {
					runCode(t, c, x, s, api.Event{Name: "e"}, nil, 0)
				}
				regs = max(regs, c.Events[1].Regs)
			}
		}
	}
	if most.variables != 20 || most.exprs != 30 || most.deep != 13 {
		t.Errorf("the bounds aren't met: %v", most)
	}
	t.Logf("%d registers", regs)
}

// P13.1: trees by chance within the bounds are taken, and do what they mean.
func TestByChanceAtTheBounds(t *testing.T) {
	k := &maker{Rand: rand.New(rand.NewSource(135)), limit: bounds}
	var s seen
	var met [4]int
	for range 90 {
		x := k.whole()
		m, _ := wantWithin(t, x)
		for at, isMet := range []bool{m.variables == bounds.variables, m.parts == bounds.parts, m.exprs == bounds.exprs, m.deep == bounds.deep} {
			if isMet {
				met[at]++
			}
		}
		k.wantRuns(t, x, 3, &s)
		if t.Failed() {
			t.FailNow()
		}
	}
	t.Logf("%v, at the bounds %v", s, met)
	for _, count := range met {
		if count < 5 {
			t.Errorf("a bound is met too seldom: %v", met)
		}
	}
}

// ofLets: a handler of so many variables, behind one without any.
func ofLets(count int) api.Tree {
	d := api.Decl{Name: "e", At: 77}
	for i := range count {
		d.Body = append(d.Body, api.Stmt{Kind: api.SLet, Name: fmt.Sprint("v", i), Args: []api.Expr{{Kind: api.EInt, Int: int64(i)}}})
	}
	return api.Tree{Events: []api.Decl{{Name: "other", At: 5}, d}}
}

// P13.1: as many registers as there may be, and one more; of functions, and of handlers.
func TestRegisters(t *testing.T) {
	for count := range 70 {
		x := ofLets(count)
		for params := range 3 {
			if params > 0 {
				x.Events[1].Params = append(x.Events[1].Params, api.Param{Name: fmt.Sprint("p", params), Type: "int"})
			}
			if count+params <= 64 {
				if c := coded(t, x); c.Events[1].Regs != count+params {
					t.Errorf("%d registers for %d variables", c.Events[1].Regs, count+params)
				}
			} else {
				wantRefused(t, "variables", x, 77, api.ErrFlowForm)
			}
			asFunction := api.Tree{Events: x.Events[:1], Funcs: x.Events[1:]}
			if count+params <= 64 {
				coded(t, asFunction)
			} else {
				wantRefused(t, "variables of a function", asFunction, 77, api.ErrFlowForm)
			}
		}
	}
	// All of 64 are there, each with its own value, also those of 64 blocks one in the other.
	x := ofLets(64)
	for i := range 64 {
		x.Events[1].Body = append(x.Events[1].Body, api.Stmt{Kind: api.SIf, Args: []api.Expr{{Kind: api.EBinary, Op: api.OEq, Args: []api.Expr{{Kind: api.EVar, Name: fmt.Sprint("v", i)}, {Kind: api.EVar, Name: fmt.Sprint("v", 63-i)}}}}, Body: []api.Stmt{{Kind: api.SReturn}}})
	}
	wantRefused(t, "64 variables and one truth", x, 77, api.ErrFlowForm)
	blocks := ofLets(0)
	list := &blocks.Events[1].Body
	for range 300 {
		*list = append(*list, api.Stmt{Kind: api.SIf, Args: []api.Expr{{Kind: api.EBool}}, Body: ofLets(63).Events[1].Body})
	}
	blocks.Events[1].Body = blocks.Events[1].Body[:10]
	for i := range blocks.Events[1].Body {
		blocks.Events[1].Body[i].Else = ofLets(63).Events[1].Body
	}
	coded(t, blocks) // blocks beside one another share their registers
}

// P13.1: long rows of operators, and much that is nested, need few registers.
func TestFewRegisters(t *testing.T) {
	for _, r := range []struct{ first, next string }{{"1", " + 1"}, {"1", " - 1 * 1"}, {"true", " and true"}, {"false", " or false"}, {"true", " and true or false"}, {"\"\"", " & \"\""}} {
		for _, statement := range []string{"do %;", "let x = %;", "let x = %; x = %;", "if % == % { }"} {
			coded(t, read(t, "on e() { "+strings.ReplaceAll(statement, "%", "("+r.first+strings.Repeat(r.next, 90)+")")+" }"))
		}
	}
	for _, around := range []api.Stmt{{Kind: api.SIf, Args: []api.Expr{{Kind: api.EBool, Int: 1}}}, {Kind: api.SWhile, Args: []api.Expr{{Kind: api.EBool, Int: 1}}}} {
		s := api.Stmt{Kind: api.SReturn}
		for range 400 {
			around.Body = []api.Stmt{s}
			s = around
		}
		if c := coded(t, api.Tree{Events: []api.Decl{{Name: "e", Body: []api.Stmt{s}}}}); c.Events[0].Regs != 1 {
			t.Errorf("%d registers", c.Events[0].Regs)
		}
	}
}

// What is answered has no block to which nothing comes; of statements without a choice it is one block.
func TestBlocks(t *testing.T) {
	k := &maker{Rand: rand.New(rand.NewSource(139)), limit: small}
	for range 300 {
		u, _, _ := lower.Lower(k.whole())
		for _, g := range append(u.Funcs, u.Events...) {
			if met, err := flow.Reached(g); err != api.OK || slices.Contains(met, false) {
				t.Errorf("%v, %d", met, err)
			}
		}
	}
	u, _, _ := lower.Lower(read(t, in("let x = i(1); x = x * 2; m[x] = x; emit str(x); after x v(x); return; emit \"\";")))
	for at, g := range append(u.Funcs, u.Events...) {
		if isOne := len(g.Blocks) == 1; isOne != (at != 2 && at != 8 && at != 9) {
			t.Errorf("%d blocks of function %d", len(g.Blocks), at)
		}
	}
}

// P13.1: as many instructions as there may be, and more; a jump that is needed is one.
func TestInstructions(t *testing.T) {
	for _, statements := range []string{"emit \"\";", "m[1] = 1;", "if true { emit \"\"; } else { emit \"a\"; }", "while true { }", "each k in m { }", "do i(1) + 2;", "o[\"\"] = true or false;"} {
		x := read(t, in(statements))
		e := &x.Events[len(x.Events)-1]
		once := e.Body
		e.At = 1234
		before := 0
		for count := 1; ; count++ {
			u, _, err := lower.Lower(x)
			if err != api.OK {
				wantRefused(t, statements, x, 1234, api.ErrFlowForm)
				if before+before/(count-1)+1 <= api.MaxOps {
					t.Errorf("P13.1: %s: %d times are refused, though one time less is %d instructions", statements, count, before)
				}
				break
			}
			c, err := flow.Flatten(u)
			if before = len(c.Events[len(c.Events)-1].Ops); err != api.OK || before > api.MaxOps {
				t.Fatalf("P13.1: %s: %d times: %d", statements, count, err)
			}
			e.Body = append(e.Body, once...)
		}
	}
	for _, r := range []struct {
		emits, others int
		isIn          bool
	}{{998, 1, true}, {998, 2, true}, {998, 3, false}, {999, 0, true}, {999, 1, false}, {1000, 0, false}, {5000, 0, false}} {
		d := api.Decl{Name: "f", At: 9}
		for range r.others {
			d.Body = append(d.Body, api.Stmt{Kind: api.SDo, Args: []api.Expr{{Kind: api.EInt}}})
		}
		for range r.emits {
			d.Body = append(d.Body, api.Stmt{Kind: api.SEmit, Args: []api.Expr{{Kind: api.EText}}})
		}
		for _, x := range []api.Tree{{Funcs: []api.Decl{d}}, {Events: []api.Decl{d}}} {
			if !r.isIn {
				wantRefused(t, "emissions", x, 9, api.ErrFlowForm)
			} else if c := coded(t, x); len(c.Funcs) > 0 && len(c.Funcs[0].Ops) != 2+2*r.emits+r.others {
				t.Errorf("%d instructions", len(c.Funcs[0].Ops))
			}
		}
	}
}

// P13.1: many blocks, few instructions: that is no fault.
func TestManyBlocks(t *testing.T) {
	x := read(t, "on e(a: bool, c: int) { if a { } else { do c; } while true { if a { continue; } } }")
	e := &x.Events[0]
	choice := e.Body[0]
	for range 1500 {
		e.Body = append([]api.Stmt{choice}, e.Body...)
	}
	c := coded(t, x)
	if o := runCode(t, c, x, blank(c.Program), api.Event{Name: "e", Args: []api.Value{truth(true), numbered(1)}}, nil, 0); o.Trap != api.TrapFuel {
		t.Errorf("%s", told(c.Program, o))
	}
}
