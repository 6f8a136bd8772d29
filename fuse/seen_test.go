package fuse_test

import (
	"slices"
	"testing"

	"windlass/api"
)

// seen: how often there was which end, trap; and runs with more than one emission, timer, request; with many charges; how many reads became moves, went, stayed behind another one of that map and register.
type seen struct {
	ends  [3]int
	traps [10]int
	many  [4]int
	reads [3]int
}

func (s *seen) add(o api.Outcome) {
	s.ends[o.End]++
	s.traps[o.Trap]++
	for at, isMany := range []bool{len(o.Emits) > 1, len(o.Plans) > 1, len(o.Requests) > 1, o.Fuel > 20} {
		if isMany {
			s.many[at]++
		}
	}
}

func (s *seen) addUnits(u, v api.Unit) {
	for i, g := range graphs(u) {
		for at, b := range g.Blocks {
			was, is := b.Ops, graphs(v)[i].Blocks[at].Ops
			s.reads[0] += countOf(is, api.IMove) - countOf(was, api.IMove)
			s.reads[1] += len(was) - len(is)
			s.reads[2] += laterReads(is)
		}
	}
}

// laterReads: those ahead of which there is one of the same map and register.
func laterReads(ops []api.Op) int {
	count := 0
	for at, o := range ops {
		if slices.ContainsFunc(ops[:at], func(other api.Op) bool { return isSameRead(o, other) }) {
			count++
		}
	}
	return count
}

func (s *seen) wantEnough(t *testing.T, traps []int) {
	t.Helper()
	t.Logf("ends %v, traps %v, many %v, reads %v", s.ends, s.traps, s.many, s.reads)
	counts := slices.Concat(s.ends[:], s.many[:], s.reads[:])
	for _, trap := range traps {
		counts = append(counts, s.traps[trap])
	}
	for _, count := range counts {
		if count < 10 {
			t.Errorf("something is seen too seldom")
		}
	}
}
