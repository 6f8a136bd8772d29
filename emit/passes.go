package emit

import (
	"windlass/api"
	"windlass/code"
	"windlass/dead"
	"windlass/flow"
	"windlass/fold"
	"windlass/fuse"
	"windlass/inline"
)

// Where each pass stands in a round, which is the number of its bit, too. What is reckoned shows what is never gone, and without both more functions are small enough to be laid in.
const (
	folding = iota
	clearing
	laying
	fusing
	passCount
)

// work: a unit as the passes have left it so far, and its code.
type work struct {
	unit api.Unit
	code api.Code
}

// behind: u when none of the passes that are on changes its code any more: so what each of them promises holds, whatever another one did behind it. It comes to that, as each change lays a call in, leaves something out, or puts something simpler in its place.
func behind(u api.Unit, passes int) api.Unit {
	var w work
	w.take(u)
	round := [passCount]func() bool{folding: w.fold, clearing: w.clear, laying: w.lay, fusing: w.fuse}
rounds:
	for {
		for place, changes := range round {
			if passes&(1<<place) != 0 && changes() {
				continue rounds
			}
		}
		return w.unit
	}
}

func (w *work) take(u api.Unit) {
	w.unit = u
	w.code, _ = flow.Flatten(u) // what layer 13 or a pass tells is flow.Is
}

func (w *work) fold() bool { return w.changes(fold.Pass) }

func (w *work) clear() bool { return w.changes(dead.Pass) }

func (w *work) lay() bool { return w.changes(inline.Pass) }

func (w *work) fuse() bool { return w.changes(fuse.Pass) }

// changes: whether a pass makes other code of the unit. (One that refused it would leave it as it is.)
func (w *work) changes(pass func(api.Unit) (api.Unit, api.Errno)) bool {
	before := w.code
	if u, err := pass(w.unit); err == api.OK {
		w.take(u)
	}
	return !code.Same(before, w.code)
}
