package lower_test

import (
	"math/rand"
	"slices"
	"testing"

	"windlass/api"
)

// All promises, on trees by chance: events one behind the other, each on the state that the one ahead of it left, with no answers, one, and so on.
func TestByChance(t *testing.T) {
	k := &maker{Rand: rand.New(rand.NewSource(134)), limit: small}
	var s seen
	for range 280 {
		x := k.whole()
		k.wantRuns(t, x, 6, &s)
		if t.Failed() {
			t.FailNow()
		}
	}
	s.wantEnough(t)
}

// seen: how often there was which end, trap; and runs with more than one emission, timer, request; with many charges.
type seen struct {
	ends  [3]int
	traps [10]int
	many  [4]int
}

func (s *seen) add(o api.Outcome) {
	s.ends[o.End]++
	s.traps[o.Trap]++
	for at, isMany := range []bool{len(o.Emits) > 1, len(o.Plans) > 1, len(o.Requests) > 1, o.Fuel > 20} {
		if isMany {
			s.many[at]++
		}
	}
}

func (s *seen) wantEnough(t *testing.T) {
	t.Helper()
	t.Logf("ends %v, traps %v, many %v", s.ends, s.traps, s.many)
	for _, count := range slices.Concat(s.ends[:], s.traps[:], s.many[:]) {
		if count < 10 {
			t.Errorf("something is seen too seldom")
		}
	}
}

func (k *maker) wantRuns(t *testing.T, x api.Tree, count int, s *seen) {
	t.Helper()
	c := coded(t, x)
	state := k.state()
	for range count {
		e, answers, waiting := k.event(), k.answers(), k.Intn(20)-12
		o := wantGrown(t, c, x, state, e, answers, waiting, s)
		state = o.State
	}
}

// wantGrown: runs with more and more answers; each goes the way of the one ahead of it, up to where that waited. It tells what the last one answers.
func wantGrown(t *testing.T, c api.Code, x api.Tree, s api.State, e api.Event, answers []string, waiting int, counted *seen) api.Outcome {
	t.Helper()
	var before api.Outcome
	for n := range len(answers) + 1 {
		o := runCode(t, c, x, s, e, answers[:n], waiting)
		counted.add(o)
		switch made := len(before.Requests); {
		case before.End == api.Waits:
			if len(o.Requests) < made || !slices.Equal(o.Requests[:made], before.Requests) || o.Fuel < before.Fuel {
				t.Errorf("P13.3: %s, then %s", shown(before), shown(o))
			}
		case n > 0 && shown(o) != shown(before):
			t.Errorf("P13.3: %s, then %s", shown(before), shown(o))
		}
		before = o
	}
	return before
}
