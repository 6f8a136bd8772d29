package flow

import (
	"strings"

	"windlass/api"
)

// What is answered is new memory, its names and texts too.

func newProgram(p api.Program) api.Program {
	var fresh api.Program
	for _, r := range p.Records {
		fresh.Records = append(fresh.Records, api.RecordType{Name: strings.Clone(r.Name), Fields: newTexts(r.Fields), Types: newList(r.Types)})
	}
	for _, m := range p.Maps {
		fresh.Maps = append(fresh.Maps, api.MapType{Name: strings.Clone(m.Name), Key: m.Key, Value: m.Value})
	}
	fresh.Funcs, fresh.Events = newSigs(p.Funcs), newSigs(p.Events)
	return fresh
}

func newSigs(list []api.Sig) []api.Sig {
	var fresh []api.Sig
	for _, s := range list {
		fresh = append(fresh, api.Sig{Name: strings.Clone(s.Name), Params: newList(s.Params), Result: s.Result})
	}
	return fresh
}

func newTexts(list []string) []string {
	var fresh []string
	for _, s := range list {
		fresh = append(fresh, strings.Clone(s))
	}
	return fresh
}

func newList[T any](list []T) []T {
	return append([]T(nil), list...)
}
