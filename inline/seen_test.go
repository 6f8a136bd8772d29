package inline_test

import (
	"slices"
	"testing"

	"windlass/api"
)

// seen: how often there was which end, trap; and runs with more than one emission, timer, request; with many charges; how many calls were laid in, how many of small functions weren't for their height, and in how many functions there was no room for them.
type seen struct {
	ends  [3]int
	traps [10]int
	many  [4]int
	calls [3]int
}

func (s *seen) add(o api.Outcome) {
	s.ends[o.End]++
	s.traps[o.Trap]++
	for at, isMany := range []bool{len(o.Emits) > 1, len(o.Plans) > 1, len(o.Requests) > 1, o.Fuel > 20} {
		if isMany {
			s.many[at]++
		}
	}
}

func (s *seen) addUnits(u, v api.Unit) {
	for i, g := range graphs(u) {
		calls := len(smallCalls(u, g))
		s.calls[1] += allSmallCalls(u, g) - calls
		if calls > 0 && len(smallCalls(u, graphs(v)[i])) > 0 {
			s.calls[2]++
			continue
		}
		s.calls[0] += calls
	}
}

// allSmallCalls: how many calls of small functions there are at any height.
func allSmallCalls(u api.Unit, g api.Graph) int {
	count := 0
	for _, b := range g.Blocks {
		for _, o := range b.Ops {
			if o.Code == api.ICall && isSmall(u.Funcs[o.K]) {
				count++
			}
		}
	}
	return count
}

// wantEnough: of all that is counted, and of these traps; of sorts of calls the first ones.
func (s *seen) wantEnough(t *testing.T, sorts int, traps []int) {
	t.Helper()
	t.Logf("ends %v, traps %v, many %v, calls %v", s.ends, s.traps, s.many, s.calls)
	counts := slices.Concat(s.ends[:], s.many[:], s.calls[:sorts])
	for _, trap := range traps {
		counts = append(counts, s.traps[trap])
	}
	for _, count := range counts {
		if count < 10 {
			t.Errorf("something is seen too seldom")
		}
	}
}
