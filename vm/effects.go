package vm

import (
	"slices"

	"windlass/api"
	"windlass/heap"
	"windlass/value"
)

// What an instruction does beside its registers; those that may trap tell the trap, or TrapNone.

func (m *machine) charge() int {
	if m.told.Fuel == api.MaxFuel {
		return api.TrapFuel
	}
	m.told.Fuel++
	return api.TrapNone
}

// apart: each map as a state of its own: a change of one is a new state, and the other maps needn't be copied for it.
func apart(s api.State) []api.State {
	var maps []api.State
	for k := range s.Maps {
		maps = append(maps, api.State{Maps: s.Maps[k : k+1 : k+1]})
	}
	return maps
}

func (m *machine) put(k int, key, v api.Value) int {
	changed, err := heap.Put(m.maps[k], 0, key, v)
	if err != api.OK {
		return api.TrapFull
	}
	m.maps[k] = changed
	return api.TrapNone
}

func (m *machine) del(k int, key api.Value) { m.maps[k] = heap.Del(m.maps[k], 0, key) }

// get: a zero, if there is none.
func (m *machine) get(k int, key api.Value) api.Value {
	if v, isThere := heap.Get(m.maps[k], 0, key); isThere {
		return v
	}
	return value.Zero(m.code.Program, m.code.Program.Maps[k].Value)
}

func (m *machine) has(k int, key api.Value) bool {
	_, isThere := heap.Get(m.maps[k], 0, key)
	return isThere
}

func (m *machine) next(o api.Op, registers []api.Value) {
	key, isThere := m.follower(o.K, registers[o.A], isTrue(registers[o.B]))
	registers[o.D] = truth(isThere)
	if isThere {
		registers[o.A], registers[o.B] = key, truth(true)
	}
}

// follower: the first key of map k above last, or of all, if none was met.
func (m *machine) follower(k int, last api.Value, isMet bool) (api.Value, bool) {
	if isMet {
		return heap.Next(m.maps[k], 0, last)
	}
	return heap.First(m.maps[k], 0)
}

func (m *machine) ask(o api.Op, registers []api.Value) {
	made := len(m.told.Requests)
	if made == api.MaxAsks {
		m.trap(api.TrapAsks)
		return
	}
	m.told.Requests = append(m.told.Requests, api.Request{N: made + 1, Port: m.code.Texts[o.K], Text: registers[o.A].Text})
	if made >= len(m.answers) {
		m.told.End = api.Waits
		return
	}
	answer, trap := fitting(m.answers[made])
	registers[o.D] = answer
	m.trap(trap)
}

func (m *machine) emit(s string) int {
	if len(m.told.Emits) == api.MaxEmits {
		return api.TrapEmits
	}
	m.told.Emits = append(m.told.Emits, s)
	return api.TrapNone
}

func (m *machine) after(delay int64, handler int, args []api.Value) int {
	room := api.MaxTimers - len(m.told.Plans)
	if delay < 1 || delay > api.MaxDelay || max(m.waiting, 0) >= room {
		return api.TrapDelay
	}
	// The registers go on to change: the arguments are those of now.
	event := api.Event{Name: m.code.Program.Events[handler].Name, Args: slices.Clone(args)}
	m.told.Plans = append(m.told.Plans, api.Plan{Delay: int(delay), Event: event})
	return api.TrapNone
}
