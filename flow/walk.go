package flow

import (
	"iter"
)

// met: of each number below count (which is above 0) whether one comes to it from 0; ways tells where one goes from a number.
func met(count int, ways func(int) []int) []bool {
	list := make([]bool, count)
	left := count
	for i := range walk(count, ways) {
		list[i] = true
		left--
		// The rest of the walk would tell nothing new.
		if left == 0 {
			break
		}
	}
	return list
}

// walk hands on, each once, the numbers to which one comes from 0.
func walk(count int, ways func(int) []int) iter.Seq[int] {
	return func(yield func(int) bool) {
		if !yield(0) {
			return
		}
		seen := make([]bool, count)
		seen[0] = true
		open := []int{0}
	walking:
		for len(open) > 0 {
			from := open[len(open)-1]
			open = open[:len(open)-1]
			for _, to := range ways(from) {
				if seen[to] {
					continue
				}
				if !yield(to) {
					break walking
				}
				seen[to] = true
				open = append(open, to)
			}
		}
	}
}
