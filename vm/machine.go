package vm

import (
	"windlass/api"
)

// nothing stands in the place of a register where no result is wanted.
const nothing = -1

// machine: a run of a handler of code that is verified: each register has the type that its reader needs. What it was handed it only reads.
type machine struct {
	code    api.Code
	answers []string
	waiting int
	frames  []frame     // the handler's, and on it those of the calls by ICall that are open
	open    int         // calls, by ICall and by IEnter
	maps    []api.State // each map of the state as a state of its own
	// Done stands in End as long as nothing stops the run. State stays empty.
	told api.Outcome
}

// frame: a function that is being done.
type frame struct {
	ops       []api.Op
	at        int // the next instruction
	registers []api.Value
	wanted    int // the caller's register for the result, or nothing
}

// newFrame: with these arguments in its first registers.
func newFrame(f api.Fn, args []api.Value, wanted int) frame {
	registers := make([]api.Value, f.Regs)
	copy(registers, args)
	return frame{ops: f.Ops, registers: registers, wanted: wanted}
}

// row: the registers from the first on, as many as count; nothing can be laid behind them.
func row(registers []api.Value, first, count int) []api.Value {
	return registers[first : first+count : first+count]
}

// run does one instruction behind the other until the handler is at its end, traps or waits; watch is told each ahead of its being done.
func (m *machine) run(watch func(api.Op)) {
running:
	for {
		f := m.top()
		o := f.ops[f.at]
		f.at++
		watch(o)
		switch o.Code {
		case api.IJump:
			f.at = o.K
		case api.IUnless:
			if !isTrue(f.registers[o.A]) {
				f.at = o.K
			}
		case api.ICall:
			m.call(o, f.registers)
		case api.IRet:
			if len(m.frames) == 1 {
				break running
			}
			m.giveBack(o, *f)
		default:
			m.do(o, f.registers)
		}
		if m.told.End != api.Done {
			break running
		}
	}
}

// top: the frame whose instructions are being done.
func (m *machine) top() *frame { return &m.frames[len(m.frames)-1] }

func (m *machine) call(o api.Op, registers []api.Value) {
	if !m.enter() {
		return
	}
	args := row(registers, o.A, len(m.code.Program.Funcs[o.K].Params))
	m.frames = append(m.frames, newFrame(m.code.Funcs[o.K], args, o.D))
}

// giveBack ends the call whose frame is f.
func (m *machine) giveBack(o api.Op, f frame) {
	m.frames = m.frames[:len(m.frames)-1]
	m.open--
	if f.wanted != nothing {
		m.top().registers[f.wanted] = f.registers[o.A]
	}
}

// enter opens a call; false, if that traps.
func (m *machine) enter() bool {
	if m.open == api.MaxCalls {
		m.trap(api.TrapDepth)
		return false
	}
	m.open++
	return true
}

// trap stops the run, if there is a trap.
func (m *machine) trap(trap int) {
	if trap != api.TrapNone {
		m.told.End, m.told.Trap = api.Trapped, trap
	}
}

// do: of an instruction that stays in its function and goes on to the next one.
func (m *machine) do(o api.Op, registers []api.Value) {
	switch o.Code {
	case api.ICharge:
		m.trap(m.charge())
	case api.IEnter:
		m.enter()
	case api.ILeave:
		m.open--
	case api.IPut:
		m.trap(m.put(o.K, registers[o.A], registers[o.B]))
	case api.IDel:
		m.del(o.K, registers[o.A])
	case api.INext:
		m.next(o, registers)
	case api.IAsk:
		m.ask(o, registers)
	case api.IEmit:
		m.trap(m.emit(registers[o.A].Text))
	case api.IAfter:
		args := row(registers, o.B, len(m.code.Program.Events[o.K].Params))
		m.trap(m.after(registers[o.A].Int, o.K, args))
	default:
		v, trap := m.given(o, registers)
		registers[o.D] = v
		m.trap(trap)
	}
}
