package inline_test

import (
	"fmt"
	"slices"
	"testing"

	"windlass/api"
)

// body: what a function of an integer, a text, a truth and a record does, its registers standing behind base; which of them it tells.
type body struct {
	what   string
	ops    func(base int) []api.Op
	result int
}

// bodies: each instruction that a small function may have.
func (s *sheet) bodies() []body {
	list := []body{
		{"constants", func(b int) []api.Op {
			return []api.Op{s.num(b+4, 5), s.text(b+5, "x"), be(b+6, 1), op(api.IEmit, 0, b+5), op(api.IPut, 0, b+4, b+6, truths)}
		}, 4},
		{"a move", func(b int) []api.Op { return []api.Op{move(b+4, b), move(b, b+4), move(b+7, b)} }, 7},
		{"join", func(b int) []api.Op {
			return []api.Op{s.text(b+4, "x"), op(api.ICat, b+5, b+1, b+4), op(api.IEmit, 0, b+5)}
		}, 0},
		{"negative", func(b int) []api.Op { return []api.Op{op(api.INeg, b+4, b)} }, 4},
		{"not", func(b int) []api.Op { return []api.Op{op(api.INot, b+4, b+2), op(api.IPut, 0, b, b+4, truths)} }, 0},
		{"length", func(b int) []api.Op { return []api.Op{op(api.ILen, b+4, b+1)} }, 4},
		{"digits", func(b int) []api.Op { return []api.Op{op(api.IStr, b+4, b), op(api.IEmit, 0, b+4)} }, 0},
		{"a record", func(b int) []api.Op { return []api.Op{op(api.IMake, b+4, b, 0, 0), op(api.IPut, 0, b, b+4, pairs)} }, 0},
		{"another record", func(b int) []api.Op {
			return []api.Op{s.num(b+5, 4), move(b+6, b), op(api.IMake, b+4, b+5, 0, 1), op(api.IField, b+7, b+4, 0, 1)}
		}, 7},
		{"a field", func(b int) []api.Op { return []api.Op{op(api.IField, b+4, b+3, 0, 0)} }, 4},
		{"another field", func(b int) []api.Op { return []api.Op{op(api.IField, b+4, b+3, 0, 1), op(api.IEmit, 0, b+4)} }, 0},
		{"a map", func(b int) []api.Op { return []api.Op{op(api.IGet, b+4, b, 0, numbers)} }, 4},
		{"another map", func(b int) []api.Op { return []api.Op{op(api.IGet, b+4, b+1, 0, texts), op(api.IEmit, 0, b+4)} }, 0},
		{"whether there is something", func(b int) []api.Op {
			return []api.Op{op(api.IHas, b+4, b+1, 0, texts), op(api.IPut, 0, b, b+4, truths)}
		}, 0},
		{"an entry", func(b int) []api.Op { return []api.Op{op(api.IPut, 0, b+1, b+1, texts)} }, 0},
		{"an entry less", func(b int) []api.Op { return []api.Op{op(api.IDel, 0, b, 0, numbers), op(api.IDel, 0, b+1, 0, texts)} }, 0},
		{"the next key", func(b int) []api.Op {
			return []api.Op{op(api.INext, b+4, b, b+2, numbers), op(api.IPut, 0, b, b+4, truths)}
		}, 0},
		{"the key behind the next one", func(b int) []api.Op {
			return []api.Op{op(api.INext, b+4, b, b+2, numbers), op(api.INext, b+4, b, b+2, numbers), op(api.IPut, 0, b, b+2, truths)}
		}, 0},
		{"a request", func(b int) []api.Op { return []api.Op{s.ask(b+4, b+1, "port"), op(api.IEmit, 0, b+4)} }, 0},
		{"two requests", func(b int) []api.Op {
			return []api.Op{s.ask(b+4, b+1, "port"), s.ask(b+1, b+4, "other"), op(api.IEmit, 0, b+1)}
		}, 0},
		{"an emission", func(b int) []api.Op { return []api.Op{op(api.IEmit, 0, b+1), op(api.IEmit, 0, b+1)} }, 0},
		{"a timer", func(b int) []api.Op { return []api.Op{op(api.IAfter, 0, b, b, onInt)} }, 0},
		{"a timer of three", func(b int) []api.Op {
			return []api.Op{s.num(b+4, 9), s.num(b+5, 1), move(b+6, b+1), move(b+7, b+2), op(api.IAfter, 0, b+4, b+5, onE)}
		}, 0},
		{"a timer of none", func(b int) []api.Op { return []api.Op{op(api.IAfter, 0, b, b, onNone)} }, 0},
		{"a timer of none behind all registers", func(b int) []api.Op { return []api.Op{op(api.IAfter, 0, b, b+8, onNone)} }, 0},
		{"charges", func(b int) []api.Op { return slices.Concat(charged(), charged(), []api.Op{move(b+4, b)}, charged()) }, 4},
		{"nothing", func(b int) []api.Op { return nil }, 0},
	}
	for code := api.IAdd; code <= api.IMod; code++ {
		list = append(list, body{fmt.Sprint("arithmetic ", code), func(b int) []api.Op { return []api.Op{s.num(b+4, 3), op(code, b+5, b, b+4)} }, 5})
	}
	for code := api.IEq; code <= api.IGe; code++ {
		list = append(list, body{fmt.Sprint("comparison ", code), func(b int) []api.Op {
			return []api.Op{s.num(b+4, 1), op(code, b+5, b, b+4), op(api.IPut, 0, b+4, b+5, truths)}
		}, 4})
	}
	return list
}

// P16.1, P16.2: each instruction is laid in with all of its registers moved, and nothing else of it.
func TestBodies(t *testing.T) {
	var s sheet
	ahead := []api.Op{move(3, 0), move(4, 1), move(5, 2), op(api.IMake, 6, 3, 0, 0)}
	behind := slices.Concat(s.tell(7, intType), s.tell(3, intType), s.tell(5, boolType), s.tell(6, pair))
	isMet := map[int]bool{}
	for _, w := range s.bodies() {
		for _, o := range w.ops(0) {
			isMet[o.Code] = true
		}
		own, there := w.ops(0), w.ops(regs)
		u := s.unit(ret(-1, charged(slices.Concat(ahead, []api.Op{call(fnMixed, 7, 3)}, behind)...)...))
		u.Funcs[fnMixed] = graph(8, ret(w.result, charged(own...)...))
		v := wantBlocks(t, w.what, u, ret(-1, charged(slices.Concat(ahead, laid(into(3, 4), there, move(7, regs+w.result)), behind)...)...))
		if shown(v.Funcs) != shownFuncsBehindPass(u) {
			t.Errorf("P16.1: %s: another function: %s", w.what, unitSpelled(v))
		}
	}
	for code := api.IInt; code <= api.ICharge; code++ {
		if !isMet[code] && code != api.ICall {
			t.Errorf("no function has instruction %d", code)
		}
	}
}

// shownFuncsBehindPass: a sheet's functions, of which outer alone calls one that is small.
func shownFuncsBehindPass(u api.Unit) string {
	funcs := slices.Clone(u.Funcs)
	funcs[fnOuter] = modelPass(u, funcs[fnOuter])
	return shown(funcs)
}
