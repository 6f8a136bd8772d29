package dead_test

import (
	"slices"
	"testing"

	"windlass/api"
)

// seen: how often there was which end, trap; and runs with more than one emission, timer, request; with many charges; how many instructions and blocks went, and of how many more IUnless one way alone is left.
type seen struct {
	ends  [3]int
	traps [10]int
	many  [4]int
	went  [3]int
}

func (s *seen) add(o api.Outcome) {
	s.ends[o.End]++
	s.traps[o.Trap]++
	for at, isMany := range []bool{len(o.Emits) > 1, len(o.Plans) > 1, len(o.Requests) > 1, o.Fuel > 20} {
		if isMany {
			s.many[at]++
		}
	}
}

func (s *seen) addUnits(u, v api.Unit) {
	for i, g := range graphs(u) {
		was, is := counted(g), counted(graphs(v)[i])
		for at := range s.went {
			s.went[at] += was[at] - is[at]
		}
	}
}

// counted: instructions in blocks, blocks, those that end with an IUnless.
func counted(g api.Graph) [3]int {
	n := [3]int{0, len(g.Blocks), 0}
	for _, b := range g.Blocks {
		n[0] += len(b.Ops)
		if b.End == api.IUnless {
			n[2]++
		}
	}
	return n
}

func (s *seen) wantEnough(t *testing.T, traps []int) {
	t.Helper()
	t.Logf("ends %v, traps %v, many %v, went %v", s.ends, s.traps, s.many, s.went)
	counts := slices.Concat(s.ends[:], s.many[:], s.went[:])
	for _, trap := range traps {
		counts = append(counts, s.traps[trap])
	}
	for _, count := range counts {
		if count < 10 {
			t.Errorf("something is seen too seldom")
		}
	}
}
