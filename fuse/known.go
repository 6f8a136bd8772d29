package fuse

import (
	"iter"

	"windlass/api"
	"windlass/code"
)

// read: of a map, at the key in a register.
type read struct{ table, key int }

func readOf(o api.Op) read { return read{o.K, o.A} }

// known: a read whose value a register has still.
type known struct {
	read     read
	register int
}

// holders hands on the registers that have what an instruction reads, in the order in which they were given; none, if it reads nothing.
func holders(list []known, o api.Op) iter.Seq[int] {
	return func(yield func(int) bool) {
		for _, k := range list {
			if o.Code == api.IGet && k.read == readOf(o) && !yield(k.register) {
				return
			}
		}
	}
}

// isLost: whether what was known ahead of an instruction isn't behind it.
func (k known) isLost(p api.Program, o api.Op) bool {
	switch o.Code {
	case api.ICall:
		// Its function may write any map.
		return true
	case api.IPut, api.IDel:
		return o.K == k.read.table
	}
	for register := range given(p, o) {
		if register == k.register || register == k.read.key {
			return true
		}
	}
	return false
}

// given hands on the registers that an instruction gives anew.
func given(p api.Program, o api.Op) iter.Seq[int] {
	return func(yield func(int) bool) {
		if d, ok := code.Gives(p, o); ok && !yield(d) {
			return
		}
		// Of these code.Gives tells D alone.
		if o.Code == api.INext && yield(o.A) {
			yield(o.B)
		}
	}
}
