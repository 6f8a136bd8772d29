package lower

import (
	"slices"

	"windlass/api"
)

// loop: where `continue` and `break` of it go.
type loop struct {
	label      string
	again, out mark
}

// loopOf: the loop around that has this label; the inmost one, if there is none.
func (f *function) loopOf(label string) loop {
	var found loop
search:
	for _, l := range slices.Backward(f.loops) {
		switch label {
		case "", l.label:
			found = l
			break search
		}
	}
	return found
}

// body: of a loop.
func (f *function) body(s *api.Stmt, again, out mark) {
	f.loops = append(f.loops, loop{s.Label, again, out})
	f.block(s.Body)
	f.loops = f.loops[:len(f.loops)-1]
}

func (f *function) while(s *api.Stmt) {
	head, out := f.placeHead(), f.newMark()
	f.do(api.Op{Code: api.ICharge})
	f.test(&s.Args[0], out)
	f.body(s, head, out)
	f.jump(head)
	f.place(out)
}

// each: INext goes by the last key, and by whether there was one. If the body sets the variable, the key stands in a register of its own.
func (f *function) each(s *api.Stmt) {
	m, seen := mapNamed(f.program, s.Name), len(f.variables)
	own := f.declare(s.Var, 0)
	key := own
	if sets(s.Body, s.Var) {
		key = f.fresh()
	}
	met, isThere := f.fresh(), f.fresh()
	f.zero(f.program.Maps[m].Key, key)
	f.do(api.Op{Code: api.IBool, D: met})
	head, body, again, out := f.placeHead(), f.newMark(), f.newMark(), f.newMark()
	f.do(api.Op{Code: api.ICharge})
	f.do(api.Op{Code: api.INext, D: isThere, A: key, B: met, K: m})
	f.unless(isThere, out, body)
	f.place(body)
	if key != own {
		f.do(api.Op{Code: api.IMove, D: own, A: key})
	}
	if hasExpr(s.Body) {
		// There a register may be wanted more than an instruction: behind a key met is true again.
		f.release(met)
		f.body(s, again, out)
		f.place(again)
		f.do(api.Op{Code: api.IBool, D: met, K: 1})
	} else {
		f.release(isThere)
		f.body(s, head, out)
	}
	f.jump(head)
	f.place(out)
	f.variables = f.variables[:seen]
}

// zero: what INext finds in the key's register ahead of the first one: it must be of the key's type.
func (f *function) zero(t api.Type, d int) {
	if t.Kind == api.Int {
		f.number(0, d)
		return
	}
	f.text("", d)
}
