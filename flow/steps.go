package flow

import (
	"windlass/api"
)

// areSteps: whether there is an instruction, and one wherever a jump goes.
func areSteps(ops []api.Op) bool {
	for _, o := range ops {
		if isJump(o) && !areWithin([]int{o.K}, len(ops)) {
			return false
		}
	}
	return len(ops) > 0
}

// followers: the instructions to which one goes from instruction i.
func followers(ops []api.Op, i int) []int {
	var list []int
	o := ops[i]
	if isJump(o) {
		list = append(list, o.K)
	}
	if o.Code != api.IJump && o.Code != api.IRet && i+1 < len(ops) {
		list = append(list, i+1)
	}
	return list
}
