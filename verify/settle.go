package verify

import (
	"iter"

	"windlass/api"
)

// knowledge: what is known ahead of each instruction; each way that comes to it may change that, but not for ever.
type knowledge interface {
	// come takes what holds behind from to what is known ahead of to; it tells whether that changes.
	come(from, to int) bool
	// fits: whether what is known ahead of an instruction is as it must be.
	fits(at int) bool
}

// settle takes k along all ways from the first instruction, a charge that fits whatever is known, until nothing changes; false, if it doesn't fit somewhere. No way leads over the end.
func settle(ops []api.Op, k knowledge) bool {
	fit := true
	changed := []int{0}
walking:
	for len(changed) > 0 {
		from := changed[len(changed)-1]
		changed = changed[:len(changed)-1]
		for to := range followers(ops, from) {
			if !k.come(from, to) {
				continue
			}
			// What is known later is never more, so what doesn't fit now won't fit at the end.
			if !k.fits(to) {
				fit = false
				break walking
			}
			changed = append(changed, to)
		}
	}
	return fit
}

// followers hands on the instructions to which one may go from instruction i.
func followers(ops []api.Op, i int) iter.Seq[int] {
	return func(yield func(int) bool) {
		if goesTo(ops[i]) && !yield(ops[i].K) {
			return
		}
		if goesOn(ops[i]) {
			yield(i + 1)
		}
	}
}
