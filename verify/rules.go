package verify

import (
	"slices"

	"windlass/api"
)

var (
	none   = api.Type{Kind: api.None}
	number = api.Type{Kind: api.Int}
	text   = api.Type{Kind: api.Text}
	truth  = api.Type{Kind: api.Bool}
)

// suit: whether o may be done if the registers that it uses have these types.
func (f function) suit(o api.Op, have []api.Type) bool {
	switch o.Code {
	case api.IMove:
		return have[0] != none
	case api.IEq, api.INe:
		return have[0] == have[1] && (isOrdered(have[0]) || have[0] == truth)
	case api.ILt, api.ILe, api.IGt, api.IGe:
		return have[0] == have[1] && isOrdered(have[0])
	case api.IField:
		return f.field(have[0], o.K) != none
	case api.ICall:
		isWanted := o.D >= 0
		if isWanted && f.program.Funcs[o.K].Result == none {
			return false
		}
	}
	return slices.Equal(have, f.needs(o))
}

func isOrdered(t api.Type) bool { return t == number || t == text }

// field: the type of field k of what has type t; none, if there is no such field.
func (f function) field(t api.Type, k int) api.Type {
	if t.Kind != api.Record || k >= len(f.program.Records[t.Rec].Types) {
		return none
	}
	return f.program.Records[t.Rec].Types[k]
}

// needs: the types that the registers must have which o uses, if o says by itself which ones.
func (f function) needs(o api.Op) []api.Type {
	switch o.Code {
	case api.IAdd, api.ISub, api.IMul, api.IWAdd, api.IWSub, api.IWMul, api.IDiv, api.IMod:
		return []api.Type{number, number}
	case api.INeg, api.IStr:
		return []api.Type{number}
	case api.ICat:
		return []api.Type{text, text}
	case api.ILen, api.IAsk, api.IEmit:
		return []api.Type{text}
	case api.INot, api.IUnless:
		return []api.Type{truth}
	case api.IMake:
		return f.program.Records[o.K].Types
	case api.IGet, api.IHas, api.IDel:
		return []api.Type{f.program.Maps[o.K].Key}
	case api.IPut:
		return []api.Type{f.program.Maps[o.K].Key, f.program.Maps[o.K].Value}
	case api.INext:
		return []api.Type{f.program.Maps[o.K].Key, truth}
	case api.ICall:
		return f.program.Funcs[o.K].Params
	case api.IAfter:
		return slices.Concat([]api.Type{number}, f.program.Events[o.K].Params)
	case api.IRet:
		return f.results()
	}
	return nil
}

// results: what an IRet of f needs.
func (f function) results() []api.Type {
	if f.sig.Result == none {
		return nil
	}
	return []api.Type{f.sig.Result}
}

// given: the type of what o gives, if the registers have these types ahead of it.
func (f function) given(o api.Op, ahead []api.Type) api.Type {
	switch o.Code {
	case api.IText, api.ICat, api.IStr, api.IAsk:
		return text
	case api.IBool, api.IEq, api.INe, api.ILt, api.ILe, api.IGt, api.IGe, api.INot, api.IHas:
		return truth
	case api.INext:
		return givenByNext(o)
	case api.IMove:
		return ahead[o.A]
	case api.IMake:
		return api.Type{Kind: api.Record, Rec: o.K}
	case api.IField:
		return f.field(ahead[o.A], o.K)
	case api.IGet:
		return f.program.Maps[o.K].Value
	case api.ICall:
		return f.program.Funcs[o.K].Result
	}
	return number
}

// givenByNext: of an INext. Its A and B keep the types that it needs, a key and a truth; but an A that is D, too, is a key if there is a next one, else a truth: neither by every way.
func givenByNext(o api.Op) api.Type {
	if o.D == o.A {
		return none
	}
	return truth
}
