package verify

import (
	"windlass/api"
)

const (
	torn  = -1 // ways with unlike heights come here: no height may be below 0
	unmet = -2 // no way has come here
)

// heights: what is known of the calls that are open ahead of each instruction.
type heights struct {
	ops   []api.Op
	ahead []int
}

func (f function) heightsFit() bool {
	h := heights{f.ops, make([]int, len(f.ops))}
	for i := range h.ahead {
		h.ahead[i] = unmet
	}
	h.ahead[0] = 0
	return settle(f.ops, h)
}

func (h heights) come(from, to int) bool {
	switch behind := h.ahead[from] + rise(h.ops[from]); h.ahead[to] {
	case behind:
		return false
	case unmet:
		h.ahead[to] = behind
	default:
		h.ahead[to] = torn
	}
	return true
}

func (h heights) fits(at int) bool {
	if h.ops[at].Code == api.IRet {
		return h.ahead[at] == 0
	}
	return 0 <= h.ahead[at] && h.ahead[at] <= api.MaxCalls
}

// rise: how much higher it is behind o than ahead of it.
func rise(o api.Op) int {
	switch o.Code {
	case api.IEnter:
		return 1
	case api.ILeave:
		return -1
	}
	return 0
}
