package lower

import (
	"slices"

	"windlass/api"
)

// function: a function or a handler that is being lowered.
type function struct {
	registers
	layout
	program   api.Program
	constants constants
	variables []variable // in view, those of the inmost block last
	loops     []loop     // around, the inmost one last
	lacks     bool       // a constant that can't be made
}

// variable: rec: its record's number, if it is one.
type variable struct {
	name          string
	register, rec int
}

// declare gives a new variable the next register.
func (f *function) declare(name string, rec int) int {
	v := variable{name, f.fresh(), rec}
	f.variables = append(f.variables, v)
	return v.register
}

// variable: no two in view have one name.
func (f *function) variable(name string) variable {
	return f.variables[slices.IndexFunc(f.variables, func(v variable) bool { return v.name == name })]
}

func recordNamed(p api.Program, name string) int {
	return slices.IndexFunc(p.Records, func(r api.RecordType) bool { return r.Name == name })
}

func mapNamed(p api.Program, name string) int {
	return slices.IndexFunc(p.Maps, func(m api.MapType) bool { return m.Name == name })
}

func sigNamed(sigs []api.Sig, name string) int {
	return slices.IndexFunc(sigs, func(s api.Sig) bool { return s.Name == name })
}

// exceeds: whether what was lowered is already more than there may be.
func (f *function) exceeds() bool { return f.most() > api.MaxRegs || f.count > api.MaxOps }

// block: its variables end with it. Behind a statement that goes elsewhere nothing is reached.
func (f *function) block(list []api.Stmt) {
	held, seen := f.take(0), len(f.variables)
	for i := range list {
		if !f.open || f.exceeds() {
			break
		}
		f.stmt(&list[i])
	}
	f.release(held)
	f.variables = f.variables[:seen]
}

// stmt: but for a variable, nothing that it took is wanted behind it.
func (f *function) stmt(s *api.Stmt) {
	if s.Kind == api.SLet {
		f.let(s)
		return
	}
	held := f.take(0)
	f.act(s)
	f.release(held)
}

// let: the variable's own register is free for all that is made on the way: its name isn't known there yet.
func (f *function) let(s *api.Stmt) {
	e := &s.Args[0]
	rec := f.recordOf(e)
	d := f.fresh()
	f.into(e, d)
	f.variables = append(f.variables, variable{s.Name, d, rec})
}

func (f *function) act(s *api.Stmt) {
	switch s.Kind {
	case api.SSet:
		f.put(&s.Args[0], f.variable(s.Name).register, f.fresh)
	case api.SPut:
		key := f.valued(&s.Args[0], f.fresh)
		f.do(api.Op{Code: api.IPut, A: key, B: f.valued(&s.Args[1], f.fresh), K: mapNamed(f.program, s.Name)})
	case api.SDel:
		f.do(api.Op{Code: api.IDel, A: f.valued(&s.Args[0], f.fresh), K: mapNamed(f.program, s.Name)})
	case api.SIf:
		f.choose(s)
	case api.SWhile:
		f.while(s)
	case api.SEach:
		f.each(s)
	case api.SBreak:
		f.jump(f.loopOf(s.Name).out)
	case api.SContinue:
		f.jump(f.loopOf(s.Name).again)
	case api.SReturn:
		f.giveBack(s.Args)
	case api.SEmit:
		f.do(api.Op{Code: api.IEmit, A: f.valued(&s.Args[0], f.fresh)})
	case api.SAfter:
		delay := f.valued(&s.Args[0], f.fresh)
		f.do(api.Op{Code: api.IAfter, A: delay, B: f.inRow(s.Args[1:], inOrder), K: sigNamed(f.program.Events, s.Name)})
	case api.SDo:
		f.drop(&s.Args[0])
	}
}

// choose: SIf.
func (f *function) choose(s *api.Stmt) {
	other, out := f.newMark(), f.newMark()
	f.test(&s.Args[0], other)
	f.block(s.Body)
	if len(s.Else) > 0 {
		f.jump(out)
	}
	f.place(other)
	f.block(s.Else)
	f.place(out)
}

// test goes on, if e is true, else to ifFalse.
func (f *function) test(e *api.Expr, ifFalse mark) {
	held, ifTrue := f.take(0), f.newMark()
	f.unless(f.valued(e, f.fresh), ifFalse, ifTrue)
	f.release(held)
	f.place(ifTrue)
}

func (f *function) giveBack(args []api.Expr) {
	if len(args) == 0 {
		f.end(nothing)
		return
	}
	f.end(f.valued(&args[0], f.fresh))
}

// drop: of a call no value is wanted, and some have none.
func (f *function) drop(e *api.Expr) {
	if e.Kind == api.ECall {
		f.put(e, nothing, f.fresh)
		return
	}
	f.valued(e, f.fresh)
}
