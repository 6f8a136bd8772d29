package lower

// registers: those of a function are given out one behind the other, and taken back from the last one on.
type registers struct {
	take    func(count int) int // the first of so many new ones in a row; of none: the first that nobody has
	release func(from int)      // from this one on
	most    func() int          // how many were out at one time
}

func newRegisters() registers {
	next, most := 0, 0
	return registers{
		take: func(count int) int {
			first := next
			next += count
			most = max(most, next)
			return first
		},
		release: func(from int) { next = from },
		most:    func() int { return most },
	}
}

// fresh: a new register each time.
func (r registers) fresh() int { return r.take(1) }

// through gives out d first, then new ones: for what is made on the way to a value in d, which nobody reads until then.
func (r registers) through(d int) func() int {
	isOut := false
	return func() int {
		if !isOut {
			isOut = true
			return d
		}
		return r.fresh()
	}
}
