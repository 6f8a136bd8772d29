package types_test

import (
	"slices"
	"strings"

	"windlass/api"
	"windlass/tree"
)

// told: of a tree: where, which error.
type told struct {
	at  int
	err api.Errno
}

// model says over what the chapter says, with types by their names (none: ""). It goes on behind a fault, and has all of them in order; only the first one counts.
type model struct {
	tree   api.Tree
	faults []told
	blocks [][]api.Param
	labels []string
	result string
}

// modelOf: the first fault that the chapter tells of a tree.
func modelOf(t api.Tree) told {
	if !tree.Is(t) {
		return told{0, api.ErrTypeTree}
	}
	m := model{tree: t}
	m.declarations()
	for _, d := range t.Funcs {
		m.body(d)
		if d.Result != "" && !bodyEnds(d.Body) {
			m.tell(d.At, api.ErrTypeReturn)
		}
	}
	for _, d := range t.Events {
		m.body(d)
	}
	return append(m.faults, told{})[0]
}

func (m *model) tell(at int, err api.Errno) { m.faults = append(m.faults, told{at, err}) }

func (m *model) tellIf(wrong bool, at int, err api.Errno) {
	if wrong {
		m.tell(at, err)
	}
}

func find(list []api.Decl, name string) *api.Decl {
	for i := range list {
		if list[i].Name == name {
			return &list[i]
		}
	}
	return nil
}

func findParam(list []api.Param, name string) *api.Param {
	for i := range list {
		if list[i].Name == name {
			return &list[i]
		}
	}
	return nil
}

func (m *model) isThere(name string) bool {
	return slices.Contains([]string{"int", "text", "bool", ""}, name) || find(m.tree.Records, name) != nil
}

func (m *model) declarations() {
	for i, d := range m.tree.Records {
		m.tellIf(find(m.tree.Records[:i], d.Name) != nil || hasTwice(d.Params), d.At, api.ErrTypeTwice)
	}
	for i, d := range m.tree.Maps {
		m.tellIf(find(m.tree.Maps[:i], d.Name) != nil, d.At, api.ErrTypeTwice)
		m.tellIf(!m.isThere(d.Value), d.At, api.ErrTypeName)
	}
	for _, list := range [][]api.Decl{m.tree.Funcs, m.tree.Events} {
		for i, d := range list {
			twice := find(list[:i], d.Name) != nil || hasTwice(d.Params)
			missing := !m.isThere(d.Result)
			for _, param := range d.Params {
				twice = twice || find(m.tree.Maps, param.Name) != nil
				missing = missing || !m.isThere(param.Type)
			}
			m.tellIf(twice, d.At, api.ErrTypeTwice)
			m.tellIf(missing, d.At, api.ErrTypeName)
		}
	}
}

func hasTwice(params []api.Param) bool {
	names := map[string]int{}
	for _, param := range params {
		names[param.Name]++
	}
	return len(names) < len(params)
}

func bodyEnds(body []api.Stmt) bool {
	for _, last := range body[max(0, len(body)-1):] {
		switch last.Kind {
		case api.SReturn:
			return true
		case api.SIf:
			return bodyEnds(last.Body) && bodyEnds(last.Else)
		}
	}
	return false
}

func (m *model) body(d api.Decl) {
	m.result, m.labels = d.Result, nil
	m.block(d.Body, d.Params...)
}

func (m *model) block(list []api.Stmt, own ...api.Param) {
	m.blocks = append(m.blocks, slices.Clone(own))
	for _, s := range list {
		m.stmt(s)
	}
	m.blocks = m.blocks[:len(m.blocks)-1]
}

func (m *model) variable(name string) *api.Param {
	return findParam(slices.Concat(m.blocks...), name)
}

func (m *model) taken(name string) bool {
	return m.variable(name) != nil || find(m.tree.Maps, name) != nil
}

// asks: an expression, which must be of a type.
func (m *model) asks(e api.Expr, kind string) {
	m.tellIf(m.expr(e) != kind, e.At, api.ErrTypeType)
}

func (m *model) stmt(s api.Stmt) {
	switch s.Kind {
	case api.SLet:
		kind := m.expr(s.Args[0])
		m.tellIf(kind == "", s.Args[0].At, api.ErrTypeType)
		m.tellIf(m.taken(s.Name), s.At, api.ErrTypeTwice)
		last := &m.blocks[len(m.blocks)-1]
		*last = append(*last, api.Param{Name: s.Name, Type: kind})
	case api.SSet:
		v := m.variable(s.Name)
		if v == nil {
			m.tell(s.At, api.ErrTypeName)
			return
		}
		m.asks(s.Args[0], v.Type)
	case api.SPut, api.SDel:
		d := find(m.tree.Maps, s.Name)
		if d == nil {
			m.tell(s.At, api.ErrTypeName)
			return
		}
		for i, kind := range []string{d.Key, d.Value}[:len(s.Args)] {
			m.asks(s.Args[i], kind)
		}
	case api.SIf:
		m.asks(s.Args[0], "bool")
		m.block(s.Body)
		m.block(s.Else)
	case api.SWhile, api.SEach:
		m.loop(s)
	case api.SBreak, api.SContinue:
		m.tellIf(len(m.labels) == 0 || s.Name != "" && !slices.Contains(m.labels, s.Name), s.At, api.ErrTypeLoop)
	default:
		m.simple(s)
	}
}

func (m *model) loop(s api.Stmt) {
	m.tellIf(s.Label != "" && slices.Contains(m.labels, s.Label), s.At, api.ErrTypeTwice)
	var own []api.Param
	if s.Kind == api.SWhile {
		m.asks(s.Args[0], "bool")
	} else {
		d := find(m.tree.Maps, s.Name)
		m.tellIf(d == nil, s.At, api.ErrTypeName)
		m.tellIf(m.taken(s.Var), s.At, api.ErrTypeTwice)
		if d != nil {
			own = []api.Param{{Name: s.Var, Type: d.Key}}
		}
	}
	m.labels = append(m.labels, s.Label)
	m.block(s.Body, own...)
	m.labels = m.labels[:len(m.labels)-1]
}

func (m *model) simple(s api.Stmt) {
	switch s.Kind {
	case api.SReturn:
		m.tellIf((m.result == "") == (len(s.Args) == 1), s.At, api.ErrTypeReturn)
		for _, e := range s.Args {
			m.asks(e, m.result)
		}
	case api.SEmit:
		m.asks(s.Args[0], "text")
	case api.SDo:
		m.expr(s.Args[0])
	case api.SAfter:
		d := find(m.tree.Events, s.Name)
		m.tellIf(d == nil, s.At, api.ErrTypeName)
		if d == nil || len(d.Params) != len(s.Args)-1 {
			m.tell(s.At, api.ErrTypeCount)
			return
		}
		m.asks(s.Args[0], "int")
		for i, param := range d.Params {
			m.asks(s.Args[i+1], param.Type)
		}
	}
}

// operators: by their number: what is asked of the arguments (one of these), what is given.
var operators = map[int][2]string{
	api.OAdd: {"int", "int"}, api.OSub: {"int", "int"}, api.OMul: {"int", "int"}, api.OWAdd: {"int", "int"}, api.OWSub: {"int", "int"}, api.OWMul: {"int", "int"}, api.ODiv: {"int", "int"}, api.OMod: {"int", "int"},
	api.OCat: {"text", "text"}, api.OEq: {"int text bool", "bool"}, api.ONe: {"int text bool", "bool"}, api.OLt: {"int text", "bool"}, api.OLe: {"int text", "bool"}, api.OGt: {"int text", "bool"}, api.OGe: {"int text", "bool"},
	api.OAnd: {"bool", "bool"}, api.OOr: {"bool", "bool"}, api.ONeg: {"int", "int"}, api.ONot: {"bool", "bool"}, api.OLen: {"text", "int"}, api.OStr: {"int", "text"},
}

// ahead: the declaration that an expression names, nothing if it is told to be missing; and how many arguments it has, if that is told there.
func (m *model) ahead(e api.Expr) api.Decl {
	sorts := map[int][]api.Decl{api.EMake: m.tree.Records, api.EGet: m.tree.Maps, api.EHas: m.tree.Maps, api.ECall: m.tree.Funcs}
	sort, names := sorts[e.Kind]
	d := find(sort, e.Name)
	if d == nil {
		m.tellIf(names, e.At, api.ErrTypeName)
		d = &api.Decl{}
	}
	m.tellIf(e.Kind == api.ECall && len(e.Args) != len(d.Params), e.At, api.ErrTypeCount)
	return *d
}

// expr: its type; behind a fault any one.
func (m *model) expr(e api.Expr) string {
	d := m.ahead(e)
	var kinds []string
	for _, arg := range e.Args {
		kinds = append(kinds, m.expr(arg))
	}
	fit := func(i int, kind string) {
		if i < len(kinds) {
			m.tellIf(kinds[i] != kind, e.Args[i].At, api.ErrTypeType)
		}
	}
	switch e.Kind {
	case api.EInt:
		return "int"
	case api.EText:
		return "text"
	case api.EBool:
		return "bool"
	case api.EVar:
		return m.named(m.variable(e.Name), e.At)
	case api.EUnary, api.EBinary:
		rule := operators[e.Op]
		if slices.Contains(strings.Fields(rule[0]), kinds[0]) {
			fit(len(kinds)-1, kinds[0])
		} else {
			fit(0, "none")
		}
		return rule[1]
	case api.EField:
		record := find(m.tree.Records, kinds[0])
		if record == nil {
			fit(0, "none")
			return ""
		}
		return m.named(findParam(record.Params, e.Name), e.At)
	case api.EMake:
		m.parts(e, d, fit)
		return e.Name
	case api.EGet:
		fit(0, d.Key)
		return d.Value
	case api.EHas:
		fit(0, d.Key)
		return "bool"
	case api.ECall:
		for i, param := range d.Params {
			fit(i, param.Type)
		}
		return d.Result
	}
	fit(0, "text") // EAsk
	return "text"
}

// named: the type of a variable or a field, if there is one.
func (m *model) named(v *api.Param, at int) string {
	if v == nil {
		m.tell(at, api.ErrTypeName)
		return ""
	}
	return v.Type
}

// parts: of a record that is made.
func (m *model) parts(e api.Expr, d api.Decl, fit func(int, string)) {
	var fields []string
	for _, field := range d.Params {
		fields = append(fields, field.Name)
	}
	if !slices.Equal(slices.Sorted(slices.Values(e.Names)), slices.Sorted(slices.Values(fields))) {
		m.tell(e.At, api.ErrTypeCount)
		return
	}
	for i, name := range e.Names {
		fit(i, findParam(d.Params, name).Type)
	}
}
