package types

import (
	"slices"

	"windlass/api"
)

// expr tells an expression's type.
func (c *checker) expr(e *api.Expr) (api.Type, bool) {
	switch e.Kind {
	case api.EInt:
		return simple(api.Int), true
	case api.EText:
		return simple(api.Text), true
	case api.EBool:
		return simple(api.Bool), true
	case api.EVar:
		return c.read(e)
	case api.EUnary, api.EBinary:
		return c.operate(e)
	case api.EField:
		return c.field(e)
	case api.EMake:
		return c.record(e)
	case api.EGet, api.EHas:
		return c.lookUp(e)
	case api.ECall:
		return c.call(e)
	}
	return simple(api.Text), c.given(e.Args, simple(api.Text)) // EAsk
}

// all tells the types of expressions, each looked at wholly ahead of the next one.
func (c *checker) all(list []api.Expr) ([]api.Type, bool) {
	var types []api.Type
	for i := range list {
		t, ok := c.expr(&list[i])
		if !ok {
			return nil, false
		}
		types = append(types, t)
	}
	return types, true
}

// given: of an expression's arguments all are looked at ahead of the types that are asked (P8.2).
func (c *checker) given(list []api.Expr, asked ...api.Type) bool {
	types, ok := c.all(list)
	return ok && c.fit(list, types, asked)
}

// fit: whether arguments have the types that are asked of them.
func (c *checker) fit(list []api.Expr, types, asked []api.Type) bool {
	for i, t := range types {
		if t != asked[i] {
			return c.fault(list[i].At, api.ErrTypeType)
		}
	}
	return true
}

func (c *checker) read(e *api.Expr) (api.Type, bool) {
	t, ok := c.variable(e.Name)
	if !ok {
		return api.Type{}, c.fault(e.At, api.ErrTypeName)
	}
	return t, true
}

func (c *checker) operate(e *api.Expr) (api.Type, bool) {
	types, ok := c.all(e.Args)
	if !ok {
		return api.Type{}, false
	}
	asked, gives := operator(e.Op, types[0])
	return simple(gives), c.fit(e.Args, types, []api.Type{simple(asked), simple(asked)})
}

// operator: the kind that is asked of each argument of an operator, and the kind of what it gives.
// Comparisons take more than one: the first argument tells which, if it may stand there; else they ask for one that it hasn't.
func operator(op int, first api.Type) (asked, gives int) {
	switch op {
	case api.OCat:
		return api.Text, api.Text
	case api.OEq, api.ONe:
		return oneOf(first, api.Int, api.Text, api.Bool), api.Bool
	case api.OLt, api.OLe, api.OGt, api.OGe:
		return oneOf(first, api.Int, api.Text), api.Bool
	case api.OAnd, api.OOr, api.ONot:
		return api.Bool, api.Bool
	case api.OLen:
		return api.Text, api.Int
	case api.OStr:
		return api.Int, api.Text
	}
	return api.Int, api.Int
}

// oneOf: the type's kind, if it is one of these, else the first of these.
func oneOf(t api.Type, kinds ...int) int {
	if slices.Contains(kinds, t.Kind) {
		return t.Kind
	}
	return kinds[0]
}

func (c *checker) field(e *api.Expr) (api.Type, bool) {
	types, ok := c.all(e.Args)
	if !ok {
		return api.Type{}, false
	}
	if types[0].Kind != api.Record {
		return api.Type{}, c.fault(e.Args[0].At, api.ErrTypeType)
	}
	record := c.program.Records[types[0].Rec]
	i := slices.Index(record.Fields, e.Name)
	if i < 0 {
		return api.Type{}, c.fault(e.At, api.ErrTypeName)
	}
	return record.Types[i], true
}

func (c *checker) record(e *api.Expr) (api.Type, bool) {
	t, ok := c.typeNamed(e.Name)
	if !ok {
		return api.Type{}, c.fault(e.At, api.ErrTypeName)
	}
	types, ok := c.all(e.Args)
	if !ok {
		return api.Type{}, false
	}
	asked, ok := written(c.program.Records[t.Rec], e.Names)
	if !ok {
		return api.Type{}, c.fault(e.At, api.ErrTypeCount)
	}
	return t, c.fit(e.Args, types, asked)
}

// written: the types of a record's fields, in the order in which they are written; false, if these aren't just its fields, each once.
func written(record api.RecordType, names []string) ([]api.Type, bool) {
	if len(names) != len(record.Fields) {
		return nil, false
	}
	types := make([]api.Type, len(names))
	for i, field := range record.Fields {
		place := slices.Index(names, field)
		if place < 0 {
			return nil, false
		}
		types[place] = record.Types[i]
	}
	return types, true
}

func (c *checker) lookUp(e *api.Expr) (api.Type, bool) {
	m, ok := c.mapNamed(e.Name)
	if !ok {
		return api.Type{}, c.fault(e.At, api.ErrTypeName)
	}
	t := m.Value
	if e.Kind == api.EHas {
		t = simple(api.Bool)
	}
	return t, c.given(e.Args, m.Key)
}

func (c *checker) call(e *api.Expr) (api.Type, bool) {
	sig, ok := sigNamed(c.program.Funcs, e.Name)
	if !ok {
		return api.Type{}, c.fault(e.At, api.ErrTypeName)
	}
	if len(e.Args) != len(sig.Params) {
		return api.Type{}, c.fault(e.At, api.ErrTypeCount)
	}
	return sig.Result, c.given(e.Args, sig.Params...)
}
