package fold

import (
	"iter"

	"windlass/api"
	"windlass/code"
)

// folder goes over a unit, whose blocks it writes over, and gathers the constants that are used then. isSparing: it leaves out constants that were only reckoned with.
type folder struct {
	unit      api.Unit
	isSparing bool
	ints      pool[int64]
	texts     pool[string]
}

func newFolder(u api.Unit, isSparing bool) *folder {
	return &folder{unit: u, isSparing: isSparing, ints: newPool[int64](), texts: newPool[string]()}
}

// fold: false, if more constants would be used than there may be; it leaves off there.
func (f *folder) fold() bool {
	fits := true
folding:
	for b := range blocks(f.unit) {
		given := f.constants(b.Ops)
		isSpare := f.spare(b.Ops, given)
		var folded []api.Op
		for i, o := range b.Ops {
			if isSpare[i] {
				continue
			}
			folded = append(folded, f.named(o, given[i]))
			if f.ints.isTooGreat() || f.texts.isTooGreat() {
				fits = false
				break folding
			}
		}
		b.Ops = folded
	}
	return fits
}

// blocks hands on those of all functions and handlers.
func blocks(u api.Unit) iter.Seq[*api.Block] {
	return func(yield func(*api.Block) bool) {
		for _, graphs := range [][]api.Graph{u.Funcs, u.Events} {
			for _, g := range graphs {
				for i := range g.Blocks {
					if !yield(&g.Blocks[i]) {
						return
					}
				}
			}
		}
	}
}

// constants: what each instruction of a block gives, as far as it is known.
func (f *folder) constants(ops []api.Op) []constant {
	var list []constant
	// Several ways may come to a block's beginning: nothing is known there.
	var known [api.MaxRegs]constant
	for _, o := range ops {
		c := f.given(o, &known)
		list = append(list, c)
		if d, isGiven := code.Gives(f.unit.Program, o); isGiven {
			known[d] = c
		}
		// Gives tells D alone, but the key and the truth change, too.
		if o.Code == api.INext {
			known[o.A], known[o.B] = constant{}, constant{}
		}
	}
	return list
}

// given: the constant that o gives; one that isn't known, if that hangs on anything else, or o traps.
func (f *folder) given(o api.Op, known *[api.MaxRegs]constant) constant {
	switch o.Code {
	case api.IInt:
		return number(f.unit.Ints[o.K])
	case api.IText:
		return text(f.unit.Texts[o.K])
	case api.IBool:
		return truth(o.K == 1)
	}
	if o.Code < api.IMove || o.Code > api.IStr {
		return constant{}
	}
	// These use one register or two.
	used, _ := code.Uses(f.unit.Program, o)
	a, b := known[used[0]], known[used[len(used)-1]]
	if !a.isKnown() || !b.isKnown() {
		return constant{}
	}
	return reckoned(o.Code, a, b)
}

// named: what stands in the place of o, which gives c; a port's name is a constant, too.
func (f *folder) named(o api.Op, c constant) api.Op {
	switch {
	case c.isKnown():
		return api.Op{Code: c.by, D: o.D, K: f.numberOf(c)}
	case o.Code == api.IAsk:
		o.K = f.texts.numberOf(f.unit.Texts[o.K])
	}
	return o
}

// numberOf: by which an instruction names c.
func (f *folder) numberOf(c constant) int {
	switch c.by {
	case api.IInt:
		return f.ints.numberOf(c.number)
	case api.IText:
		return f.texts.numberOf(c.text)
	}
	return int(c.number)
}
