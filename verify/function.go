package verify

import (
	"iter"

	"windlass/api"
	"windlass/flow"
)

// function: one of a code's functions or handlers, and what the code declares.
type function struct {
	program api.Program
	sig     api.Sig
	regs    int
	ops     []api.Op
}

// functions hands on those of a code that may be with their numbers, handlers behind them.
func functions(c api.Code) iter.Seq2[int, function] {
	return func(yield func(int, function) bool) {
		for i, f := range c.Funcs {
			if !yield(i, function{c.Program, c.Program.Funcs[i], f.Regs, f.Ops}) {
				return
			}
		}
		for i, f := range c.Events {
			if !yield(len(c.Funcs)+i, function{c.Program, c.Program.Events[i], f.Regs, f.Ops}) {
				return
			}
		}
	}
}

// fault: the first of the chapter's that f has.
func (f function) fault() api.Errno {
	switch {
	case !isCharge(f.ops[0]):
		return api.ErrVerifyShape
	case !f.chargesLoops():
		return api.ErrVerifyJump
	case f.runsOut():
		return api.ErrVerifyEnd
	case !f.heightsFit():
		return api.ErrVerifyHeight
	}
	if _, fit := f.types(); !fit {
		return api.ErrVerifyType
	}
	return api.OK
}

func isCharge(o api.Op) bool { return o.Code == api.ICharge }

// chargesLoops: whether no jump goes round without a charge.
func (f function) chargesLoops() bool {
	for i, o := range f.ops {
		if goesTo(o) && o.K <= i && !isCharge(f.ops[o.K]) {
			return false
		}
	}
	return true
}

// goesTo: whether one may go from o to its K.
func goesTo(o api.Op) bool { return o.Code == api.IJump || o.Code == api.IUnless }

// goesOn: whether one may go from o to what stands behind it.
func goesOn(o api.Op) bool { return o.Code != api.IJump && o.Code != api.IRet }

// runsOut: whether one comes to the end of f and goes on.
func (f function) runsOut() bool {
	// Code that may be has jumps to its own instructions alone, so that Steps always answers.
	reached, _ := flow.Steps(api.Fn{Regs: f.regs, Ops: f.ops})
	last := len(f.ops) - 1
	return reached[last] && goesOn(f.ops[last])
}
