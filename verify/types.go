package verify

import (
	"windlass/api"
	"windlass/code"
)

// registers: what is known of the types of the registers ahead of each instruction; nil, if no way has come there.
type registers struct {
	function
	ahead [][]api.Type
}

// types: ahead of each instruction; false, if one uses a register that hasn't the type that it needs.
func (f function) types() ([][]api.Type, bool) {
	r := registers{f, make([][]api.Type, len(f.ops))}
	r.ahead[0] = make([]api.Type, f.regs)
	copy(r.ahead[0], f.sig.Params)
	return r.ahead, settle(f.ops, r)
}

func (r registers) come(from, to int) bool {
	behind := r.behind(from)
	if r.ahead[to] == nil {
		r.ahead[to] = behind
		return true
	}
	changed := false
	for i, known := range r.ahead[to] {
		if known != none && known != behind[i] {
			r.ahead[to][i] = none
			changed = true
		}
	}
	return changed
}

// behind: in a list of its own, which isn't nil without registers, either.
func (r registers) behind(at int) []api.Type {
	list := make([]api.Type, r.regs)
	copy(list, r.ahead[at])
	if d, isGiven := code.Gives(r.program, r.ops[at]); isGiven {
		list[d] = r.given(r.ops[at], r.ahead[at])
	}
	return list
}

func (r registers) fits(at int) bool {
	// Code that may be names nothing that isn't there, so that Uses always answers.
	used, _ := code.Uses(r.program, r.ops[at])
	have := make([]api.Type, len(used))
	for i, register := range used {
		have[i] = r.ahead[at][register]
	}
	return r.suit(r.ops[at], have)
}
