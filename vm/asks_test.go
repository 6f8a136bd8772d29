package vm_test

import (
	"fmt"
	"slices"
	"strings"
	"testing"

	"windlass/api"
	"windlass/vm"
)

// asker: it asks as often as is said, each time for what it was answered, by ports in turn, and emits each answer; it has put, emitted and set something ahead of it.
func asker(count int) api.Code {
	ops := []api.Op{put(1, 1, numbers), emit(0), set(2, one), after(2, 1, onInt)}
	for i := range count {
		ops = append(ops, charge(), ask(0, 0, i%2), emit(0))
	}
	return coded([]api.Type{textType, intType}, ops...)
}

// P12.2, P12.3: none, as many as are asked for, more; one behind the last.
func TestAnswers(t *testing.T) {
	given := []string{"a", "", strings.Repeat("y", 64), "\xff\x00", "e", "f"}
	e := eventOf(texted("q"), numbered(46))
	for count := range 7 {
		for n := range len(given) + 1 {
			answers := given[:n]
			o := run(t, asker(count), full(), e, answers, 0)
			what := fmt.Sprintf("%d asks, %d answers", count, n)
			made := min(count, n+1, 4)
			var want []api.Request
			for i := range made {
				want = append(want, api.Request{N: i + 1, Port: []string{"port", "other"}[i%2], Text: append([]string{"q"}, given...)[i]})
			}
			if shown(o.Requests) != shown(want) || o.Fuel != 1+min(count, n+1, 5) {
				t.Errorf("P12.2: %s: %s", what, shown(o))
			}
			switch {
			case n < min(count, 4):
				wantWaits(t, what, o, full())
			case count > 4:
				wantTrap(t, what, o, api.TrapAsks, full())
			default:
				if wantDone(t, what, o); shown(o.Emits) != shown(append([]string{"q"}, given[:count]...)) || len(o.Plans) != 1 || o.State.Maps[numbers][23].Value.Int != 46 {
					t.Errorf("P12.3: %s: %s", what, shown(o))
				}
			}
		}
	}
}

// wantWaits: what a run leaves that waits.
func wantWaits(t *testing.T, what string, o api.Outcome, s api.State) {
	t.Helper()
	if o.End != api.Waits || o.Trap != api.TrapNone || shown(o.State) != shown(s) || len(o.Emits) > 0 || len(o.Plans) > 0 || len(o.Requests) == 0 {
		t.Errorf("P12.3: %s: %s, want it to wait", what, shown(o))
	}
}

// P12.2: an answer of 64 bytes is taken, one of 65 is a trap; the request was made. One that isn't asked for isn't looked at.
func TestLongAnswers(t *testing.T) {
	e := eventOf(texted("q"), numbered(46))
	for _, length := range []int{0, 1, 63, 64, 65, 66, 128, 1 << 16} {
		for place := range 6 {
			answers := []string{"0", "1", "2", "3", "4", "5"}
			answers[place] = strings.Repeat("z", length)
			for count := range 5 {
				o := run(t, asker(count), full(), e, answers, 0)
				what := fmt.Sprintf("%d asks, answer %d has %d bytes", count, place, length)
				if length <= 64 || place >= count {
					wantDone(t, what, o)
					if len(o.Requests) != count || shown(o.Emits) != shown(append([]string{"q"}, answers[:count]...)) {
						t.Errorf("P12.2: %s: %s", what, shown(o))
					}
					continue
				}
				wantTrap(t, what, o, api.TrapLong, full())
				if len(o.Requests) != place+1 || o.Fuel != place+2 {
					t.Errorf("P12.3: %s: %s", what, shown(o))
				}
			}
		}
	}
	// The fifth is refused, however its answer would be.
	o := run(t, asker(5), full(), e, []string{"0", "1", "2", "3", strings.Repeat("z", 65)}, 0)
	wantTrap(t, "the fifth", o, api.TrapAsks, full())
}

// The chapter's example: a handler that asks twice, with one answer.
func TestAsksTwice(t *testing.T) {
	o, err := vm.Run(asker(2), blank(), eventOf(texted("q"), numbered(0)), []string{"a"}, 0)
	if wantWaits(t, "asks twice", o, blank()); err != api.OK || len(o.Requests) != 2 {
		t.Errorf("P12.2: %s, %d", shown(o), err)
	}
}

// P12.2: D may be the register that is asked; the port is the instruction's text, also an empty one, and what is asked any text.
func TestAskRegisters(t *testing.T) {
	for k, name := range []string{"port", "other", ""} {
		for _, question := range samples {
			for d := range 2 {
				ops := append([]api.Op{ask(d, 0, k)}, told(d, textType)...)
				c := coded([]api.Type{textType}, ops...)
				o := run(t, c, blank(), eventOf(texted(question)), []string{"answer"}, 0)
				wantValue(t, "IAsk", o, texted("answer"))
				if shown(o.Requests) != shown([]api.Request{{N: 1, Port: name, Text: question}}) {
					t.Errorf("P12.2: %s", shown(o.Requests))
				}
			}
		}
	}
}

// P12.5: of a run that waits and of the run with more answers: the requests go on as they began, the charges and instructions grow.
func TestMoreAnswers(t *testing.T) {
	given := []string{"a", "bb", "ccc", "dddd", "eeeee"}
	e := eventOf(texted("q"), numbered(46))
	for count := range 6 {
		var before api.Outcome
		doneBefore := 0
		for n := range len(given) + 1 {
			o := run(t, asker(count), full(), e, given[:n], 0)
			done, _, _ := vm.Trace(asker(count), full(), e, given[:n], 0)
			if n > 0 && before.End == api.Waits {
				isOn := len(o.Requests) >= len(before.Requests) && slices.Equal(o.Requests[:len(before.Requests)], before.Requests)
				if !isOn || o.Fuel < before.Fuel || done <= doneBefore {
					t.Errorf("P12.5: %s, then %s", shown(before), shown(o))
				}
			} else if n > 0 && (shown(o) != shown(before) || done != doneBefore) {
				t.Errorf("P12.5: an answer that isn't asked for is looked at: %s, then %s", shown(before), shown(o))
			}
			before, doneBefore = o, done
		}
	}
}
