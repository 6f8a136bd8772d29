package vm_test

import (
	"math/rand"
	"slices"
	"testing"

	"windlass/api"
	"windlass/heap"
	"windlass/verify"
	"windlass/vm"
)

// All promises, on codes by chance: events one behind the other, each on the state that the one ahead of it left, with no answers, one, and so on.
func TestByChance(t *testing.T) {
	k := maker{rand.New(rand.NewSource(121))}
	ends, traps, seen := map[int]int{}, map[int]int{}, map[int]int{}
	for range 200 {
		c := k.code()
		if fn, err := verify.Check(c); err != api.OK {
			t.Fatalf("the test's own code is refused: %d in %d", err, fn)
		}
		s := k.state(c.Program)
		for range 12 {
			e, answers, waiting := k.event(c.Program), k.answers(), k.Intn(20)-12
			o := k.wantGrown(t, c, s, e, answers, waiting)
			if !heap.Is(c.Program, o.State) {
				t.Fatalf("P12.3: no state: %s", shown(o.State))
			}
			s = o.State
			ends[o.End]++
			traps[o.Trap]++
			for at, isMany := range []bool{o.End == api.Done && len(o.Emits) > 1, o.End == api.Done && len(o.Plans) > 1, len(o.Requests) > 1, o.Fuel > 20} {
				if isMany {
					seen[at]++
				}
			}
		}
		if t.Failed() {
			t.FailNow()
		}
	}
	t.Logf("ends %v, traps %v, with emissions, timers, requests, charges: %v", ends, traps, seen)
	for trap := api.TrapNone; trap <= api.TrapDelay; trap++ {
		if traps[trap] < 10 {
			t.Errorf("trap %d is seen too seldom", trap)
		}
	}
	for at := range 4 {
		if seen[at] < 20 {
			t.Errorf("%d is seen too seldom", at)
		}
	}
}

// wantGrown: runs with more and more answers; each begins as the one ahead of it, which waited. It tells what the last one answers.
func (k maker) wantGrown(t *testing.T, c api.Code, s api.State, e api.Event, answers []string, waiting int) api.Outcome {
	t.Helper()
	var before api.Outcome
	for n := range len(answers) + 1 {
		// Of a run that has come to its end only the next answer and all of them can show that they aren't looked at.
		if n > 1 && n < len(answers) && before.End != api.Waits && len(before.Requests) < n-1 {
			continue
		}
		o := want(t, c, s, e, answers[:n], waiting)
		if before.End == api.Waits {
			made := len(before.Requests)
			if len(o.Requests) < made || !slices.Equal(o.Requests[:made], before.Requests) || o.Fuel < before.Fuel {
				t.Errorf("P12.5: %s, then %s", shown(before), shown(o))
			}
		} else if n > 0 && shown(o) != shown(before) {
			t.Errorf("P12.5: %s, then %s", shown(before), shown(o))
		}
		before = o
	}
	return before
}

// P12.1: codes that are spoilt are refused, or do what they say: nothing panics, all come to an end.
func TestSpoilt(t *testing.T) {
	k := maker{rand.New(rand.NewSource(122))}
	taken, refused := 0, 0
	for range 4000 {
		c := k.code()
		for range 1 + k.Intn(3) {
			k.spoil(&c)
		}
		s, e, answers := k.state(c.Program), k.event(c.Program), k.answers()[:k.Intn(6)]
		if _, err := verify.Check(c); err != api.OK {
			refused++
			if o, err := vm.Run(c, s, e, answers, 0); err != api.ErrVmCode || shown(o) != shown(api.Outcome{}) {
				t.Fatalf("P12.1: %d, %s", err, shown(o))
			}
			continue
		}
		taken++
		want(t, c, s, e, answers, k.Intn(13))
	}
	t.Logf("%d taken, %d refused", taken, refused)
	if taken < 400 || refused < 400 {
		t.Error("too few")
	}
}

// spoil makes something of an instruction another number.
func (k maker) spoil(c *api.Code) {
	list := [][]api.Fn{c.Funcs, c.Events}[k.Intn(2)]
	f := &list[k.Intn(len(list))]
	at := k.Intn(len(f.Ops))
	f.Ops = slices.Clone(f.Ops)
	switch k.Intn(4) {
	case 0:
		f.Ops = slices.Delete(f.Ops, at, at+1)
	case 1:
		f.Ops = slices.Insert(f.Ops, at, f.Ops[k.Intn(len(f.Ops))])
	case 2:
		o := &f.Ops[at]
		*[]*int{&o.D, &o.A, &o.B, &o.K}[k.Intn(4)] = k.Intn(30) - 1
	case 3:
		f.Ops[at].Code = 1 + k.Intn(api.IRet)
	}
}
