package emit_test

import (
	"slices"
	"testing"

	"windlass/api"
	"windlass/flow"
)

// givesAnew: by P9.1, whether an instruction gives a register.
func givesAnew(o api.Op, register int) bool {
	switch o.Code {
	case api.IPut, api.IDel, api.IEmit, api.IAfter, api.ICharge, api.IEnter, api.ILeave, api.IJump, api.IUnless, api.IRet:
		return false
	case api.INext:
		return slices.Contains([]int{o.D, o.A, o.B}, register)
	}
	return o.D == register
}

// isAgain: whether the read at place second is ruled out by P17.2, for the one at place first; one whose D is its own A gives that anew.
func isAgain(ops []api.Op, first, second int) bool {
	one, other := ops[first], ops[second]
	if one.Code != api.IGet || other.Code != api.IGet || one.K != other.K || one.A != other.A || one.D == one.A {
		return false
	}
	return !slices.ContainsFunc(ops[first+1:second], func(o api.Op) bool {
		isWritten := (o.Code == api.IPut || o.Code == api.IDel) && o.K == one.K
		return isWritten || o.Code == api.ICall || givesAnew(o, one.A) || givesAnew(o, one.D)
	})
}

// readsAgain: how many reads of a unit's blocks P17.2 rules out.
func readsAgain(u api.Unit) int {
	n := 0
	for _, g := range graphs(u) {
		for _, b := range g.Blocks {
			for second := range b.Ops {
				for first := range second {
					if isAgain(b.Ops, first, second) {
						n++
					}
				}
			}
		}
	}
	return n
}

const threeMaps = "record P { x: int, s: text } map m: int -> int; map w: text -> text; map p: int -> P; fn f(i: int) -> int { return m[i]; } "

// P18.2: with PassFuse no read is done again in a block, but where it must be.
func TestReads(t *testing.T) {
	for _, w := range []struct {
		statements string
		left       int // reads of e, with fuse alone
	}{
		{"do m[a]; do m[a];", 1}, {"do m[a] + m[a] * m[a];", 1}, {"let x = p[a]; emit p[a].s;", 1}, {"emit w[s] & w[s];", 1}, {"m[a] = m[a] + m[a];", 1},
		{"let x = m[a]; m[a] = 5; let y = m[a];", 2}, {"let x = m[a]; del m[a]; let y = m[a];", 2}, {"let x = m[a]; let y = f(a); let z = m[a];", 2}, {"let x = m[a]; a = 5; let y = m[a];", 2},
		{"let x = m[a]; x = 5; let y = m[a];", 2}, {"let x = m[a]; w[s] = \"x\"; del p[a]; let y = m[a];", 1}, {"each k in m { let x = m[k]; let y = m[k]; }", 1}, {"if m[a] > 0 { let x = m[a]; let y = m[a]; }", 2},
	} {
		source := threeMaps + "on e(a: int, s: text, b: bool) { " + w.statements + " }"
		for passes := range subsetsWith(api.PassFuse) {
			if n := readsAgain(unitOf(t, source, passes)); n != 0 {
				t.Errorf("P18.2: %d: %s: %d reads are there again", passes, w.statements, n)
			}
		}
		c := codeOf(t, source, api.PassFuse)
		if left := count(api.Code{Events: c.Events}, api.IGet); left != w.left {
			t.Errorf("P18.2: %s: %d reads, want %d", w.statements, left, w.left)
		}
	}
}

// P18.2: likewise of sources by chance, in which there is much to leave out.
func TestReadsByChance(t *testing.T) {
	t.Parallel()
	again := 0
	for _, source := range someSources(186, 40) {
		for passes := range subsets() {
			n := readsAgain(unitOf(t, source, passes))
			if passes&api.PassFuse == 0 {
				again += n
			} else if n != 0 {
				t.Errorf("P18.2: %d: %d reads are there again: %s", passes, n, source)
			}
		}
	}
	if again < 300 {
		t.Errorf("%d reads are there again without the pass", again)
	}
}

// wantReached: that a way comes to each instruction.
func wantReached(t *testing.T, source string, passes int) {
	t.Helper()
	for i, f := range fns(codeOf(t, source, passes)) {
		steps, err := flow.Steps(f)
		if err != api.OK || len(steps) != len(f.Ops) || slices.Contains(steps, false) {
			t.Errorf("P18.2: %d: function %d: %v, %d: %s", passes, i, steps, err, source)
		}
	}
}

// P18.2: with PassDead one comes to each instruction.
func TestReached(t *testing.T) {
	t.Parallel()
	gone := 0
	for _, statements := range []string{
		"return; emit s;", "while true { } emit s;", "while true { break; emit s; } emit s;", "while b { continue; emit s; }", "if b { return; } else { return; } emit s;", "l: while true { while true { break l; } emit s; } emit s;",
		"each k in m { return; m[k] = 1; }", "if true { emit s; } else { emit \"x\"; }", "if 1 == 2 { emit s; }", "if not (1 + 1 == 2) { emit s; } else if false { emit s; }", "while false { emit s; }", "while 1 > 2 { while b { } }",
		"let c = false; if c { emit s; }", "if false and b { emit s; }", "if true or b { emit s; } else { emit \"x\"; }", "if b and false { emit s; }", "do true and false or b;",
	} {
		for _, source := range []string{
			threeMaps + "on e(a: int, s: text, b: bool) { " + statements + " }",
			threeMaps + "fn g(a: int, s: text, b: bool) { " + statements + " } on e(a: int, s: text, b: bool) { do g(a, s, b); do g(1, \"\", true); }",
		} {
			gone += size(codeOf(t, source, api.PassFold)) - size(codeOf(t, source, api.PassFold|api.PassDead))
			for passes := range subsetsWith(api.PassDead) {
				wantReached(t, source, passes)
			}
		}
	}
	for _, source := range someSources(187, 30) {
		for passes := range subsetsWith(api.PassDead) {
			wantReached(t, source, passes)
		}
	}
	if gone < 100 {
		t.Errorf("%d instructions went", gone)
	}
}
