package dead

// registers: a set of them; each of the 64 that there may be (MaxRegs) is a bit.
type registers uint64

func (s registers) has(register int) bool { return s&(1<<register) != 0 }

func (s registers) with(list ...int) registers {
	for _, register := range list {
		s |= 1 << register
	}
	return s
}

func (s registers) without(register int) registers { return s &^ (1 << register) }
