package fold_test

import (
	"slices"
	"testing"

	"windlass/api"
)

// seen: how often there was which end, trap; and runs with more than one emission, timer, request; with many charges; how many instructions became constants.
type seen struct {
	ends  [3]int
	traps [10]int
	many  [4]int
	folds int
}

func (s *seen) add(o api.Outcome) {
	s.ends[o.End]++
	s.traps[o.Trap]++
	for at, isMany := range []bool{len(o.Emits) > 1, len(o.Plans) > 1, len(o.Requests) > 1, o.Fuel > 20} {
		if isMany {
			s.many[at]++
		}
	}
}

func (s *seen) wantEnough(t *testing.T, traps []int) {
	t.Helper()
	t.Logf("ends %v, traps %v, many %v, folds %d", s.ends, s.traps, s.many, s.folds)
	counts := slices.Concat(s.ends[:], s.many[:])
	for _, trap := range traps {
		counts = append(counts, s.traps[trap])
	}
	for _, count := range append(counts, s.folds/100) {
		if count < 10 {
			t.Errorf("something is seen too seldom")
		}
	}
}

// changes: how many instructions became constants, where none was left out.
func changes(u, v api.Unit) int {
	n := 0
	for i, g := range graphs(u) {
		for j, b := range g.Blocks {
			for at, o := range b.Ops {
				if o.Code != graphs(v)[i].Blocks[j].Ops[at].Code {
					n++
				}
			}
		}
	}
	return n
}
