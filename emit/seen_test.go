package emit_test

import (
	"slices"
	"testing"

	"windlass/api"
)

// seen: how often there was which end, trap; and runs with more than one emission, timer, request; with many charges.
type seen struct {
	ends  [3]int
	traps [10]int
	many  [4]int
}

func (s *seen) add(o api.Outcome) {
	s.ends[o.End]++
	s.traps[o.Trap]++
	for at, isMany := range []bool{len(o.Emits) > 1, len(o.Plans) > 1, len(o.Requests) > 1, o.Fuel > 20} {
		if isMany {
			s.many[at]++
		}
	}
}

func (s *seen) wantEnough(t *testing.T) {
	t.Helper()
	t.Logf("ends %v, traps %v, many %v", s.ends, s.traps, s.many)
	for _, times := range slices.Concat(s.ends[:], s.traps[:], s.many[:]) {
		if times < 5 {
			t.Errorf("something is seen too seldom")
		}
	}
}
