package vm

import (
	"strings"

	"windlass/api"
)

// What is answered is new memory, its texts too.

// outcome: of a run on s that is over.
func (m *machine) outcome(s api.State) api.Outcome {
	told := api.Outcome{End: m.told.End, Trap: m.told.Trap, Requests: newRequests(m.told.Requests), Fuel: m.told.Fuel}
	if told.End != api.Done {
		told.State = newState(s)
		return told
	}
	for _, one := range m.maps {
		told.State.Maps = append(told.State.Maps, newRow(one.Maps[0]))
	}
	for _, s := range m.told.Emits {
		told.Emits = append(told.Emits, strings.Clone(s))
	}
	for _, plan := range m.told.Plans {
		event := api.Event{Name: strings.Clone(plan.Event.Name), Args: newValues(plan.Event.Args)}
		told.Plans = append(told.Plans, api.Plan{Delay: plan.Delay, Event: event})
	}
	return told
}

func newRequests(list []api.Request) []api.Request {
	var fresh []api.Request
	for _, r := range list {
		fresh = append(fresh, api.Request{N: r.N, Port: strings.Clone(r.Port), Text: strings.Clone(r.Text)})
	}
	return fresh
}

func newState(s api.State) api.State {
	var fresh api.State
	for _, entries := range s.Maps {
		fresh.Maps = append(fresh.Maps, newRow(entries))
	}
	return fresh
}

func newRow(entries []api.Entry) []api.Entry {
	var fresh []api.Entry
	for _, e := range entries {
		fresh = append(fresh, api.Entry{Key: newValue(e.Key), Value: newValue(e.Value)})
	}
	return fresh
}

func newValues(list []api.Value) []api.Value {
	var fresh []api.Value
	for _, v := range list {
		fresh = append(fresh, newValue(v))
	}
	return fresh
}

func newValue(v api.Value) api.Value {
	v.Text = strings.Clone(v.Text)
	v.Fields = newValues(v.Fields)
	return v
}
