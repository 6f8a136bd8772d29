package types

import (
	"iter"
	"slices"

	"windlass/api"
	"windlass/value"
)

func simple(kind int) api.Type { return api.Type{Kind: kind} }

// known hands on all types that there are so far.
func (c *checker) known() iter.Seq[api.Type] {
	return func(yield func(api.Type) bool) {
		for kind := api.Int; kind <= api.Bool; kind++ {
			if !yield(simple(kind)) {
				return
			}
		}
		for rec := range c.program.Records {
			if !yield(api.Type{Kind: api.Record, Rec: rec}) {
				return
			}
		}
	}
}

func (c *checker) typeNamed(name string) (api.Type, bool) {
	for t := range c.known() {
		if value.Name(c.program, t) == name {
			return t, true
		}
	}
	return api.Type{}, false
}

func (c *checker) mapNamed(name string) (api.MapType, bool) {
	i := slices.IndexFunc(c.program.Maps, func(m api.MapType) bool { return m.Name == name })
	if i < 0 {
		return api.MapType{}, false
	}
	return c.program.Maps[i], true
}

func sigNamed(list []api.Sig, name string) (api.Sig, bool) {
	i := slices.IndexFunc(list, func(s api.Sig) bool { return s.Name == name })
	if i < 0 {
		return api.Sig{}, false
	}
	return list[i], true
}

// around hands on the variables of the blocks around, from the inmost one outwards.
func (c *checker) around() iter.Seq[map[string]api.Type] {
	return func(yield func(map[string]api.Type) bool) {
		for _, variables := range slices.Backward(c.blocks) {
			if !yield(variables) {
				return
			}
		}
	}
}

func (c *checker) variable(name string) (api.Type, bool) {
	for variables := range c.around() {
		if t, ok := variables[name]; ok {
			return t, true
		}
	}
	return api.Type{}, false
}

// isTaken: whether no variable may be given this name.
func (c *checker) isTaken(name string) bool {
	_, isVariable := c.variable(name)
	_, isMap := c.mapNamed(name)
	return isVariable || isMap
}
