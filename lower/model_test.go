package lower_test

import (
	"math/big"
	"slices"

	"windlass/api"
)

// P13.2 said over: what a tree means is done on the tree itself. A trap is a panic, numbers are reckoned exactly, maps have their entries in the order in which they came.

// stopped: how a run leaves what it does, if it doesn't come to its end.
type stopped struct{ end, trap int }

type model struct {
	tree    api.Tree
	answers []string
	waiting int
	maps    map[string][]api.Entry
	told    api.Outcome
	open    int
	scopes  []map[string]api.Value // of the function that is done
}

// Ways in which a statement ends.
const (
	goesOn = iota
	breaks
	continues
	returns
)

type ending struct {
	way   int
	label string
	gives api.Value
}

// meaning: of an event that the tree has a handler for.
func meaning(x api.Tree, s api.State, e api.Event, answers []string, waiting int) api.Outcome {
	m := &model{tree: x, answers: answers, waiting: max(waiting, 0), maps: map[string][]api.Entry{}}
	for k, d := range x.Maps {
		m.maps[d.Name] = slices.Clone(s.Maps[k])
	}
	how := m.handle(e)
	m.told.End, m.told.Trap = how.end, how.trap
	if how.end != api.Done {
		m.told.State, m.told.Emits, m.told.Plans = s, nil, nil
		return m.told
	}
	for _, d := range x.Maps {
		entries := m.maps[d.Name]
		slices.SortFunc(entries, func(a, b api.Entry) int { return order(a.Key, b.Key) })
		m.told.State.Maps = append(m.told.State.Maps, entries)
	}
	return m.told
}

func (m *model) handle(e api.Event) (how stopped) {
	defer func() {
		if r := recover(); r != nil {
			reason, isStop := r.(stopped)
			if !isStop {
				panic(r)
			}
			how = reason
		}
	}()
	m.body(*declared(m.tree.Events, e.Name), e.Args)
	return stopped{}
}

func trapIf(isSo bool, trap int) {
	if isSo {
		panic(stopped{api.Trapped, trap})
	}
}

// order: of numbers, texts, truths.
func order(a, b api.Value) int {
	if a.Kind == api.Text {
		return slices.Compare([]byte(a.Text), []byte(b.Text))
	}
	return big.NewInt(a.Int).Cmp(big.NewInt(b.Int))
}

func declared(list []api.Decl, name string) *api.Decl {
	for i := range list {
		if list[i].Name == name {
			return &list[i]
		}
	}
	return nil
}

func (m *model) charge() {
	trapIf(m.told.Fuel == 400, api.TrapFuel)
	m.told.Fuel++
}

// body: of a handler or a function, from its charge on.
func (m *model) body(d api.Decl, args []api.Value) api.Value {
	m.charge()
	outside := m.scopes
	params := map[string]api.Value{}
	for i, param := range d.Params {
		params[param.Name] = args[i]
	}
	m.scopes = nil
	e := m.block(d.Body, params)
	m.scopes = outside
	return e.gives
}

func (m *model) block(list []api.Stmt, own map[string]api.Value) ending {
	m.scopes = append(m.scopes, own)
	var e ending
	for _, s := range list {
		if e = m.stmt(s); e.way != goesOn {
			break
		}
	}
	m.scopes = m.scopes[:len(m.scopes)-1]
	return e
}

func (m *model) scope(name string) map[string]api.Value {
	for _, scope := range m.scopes {
		if _, isThere := scope[name]; isThere {
			return scope
		}
	}
	return nil
}

func (m *model) stmt(s api.Stmt) ending {
	switch s.Kind {
	case api.SIf:
		if m.isTrue(s.Args[0]) {
			return m.block(s.Body, map[string]api.Value{})
		}
		return m.block(s.Else, map[string]api.Value{})
	case api.SWhile:
		return m.while(s)
	case api.SEach:
		return m.each(s)
	case api.SBreak:
		return ending{way: breaks, label: s.Name}
	case api.SContinue:
		return ending{way: continues, label: s.Name}
	case api.SReturn:
		e := ending{way: returns}
		for _, v := range m.all(s.Args) {
			e.gives = v
		}
		return e
	}
	m.effect(s, m.all(s.Args))
	return ending{}
}

// effect: of a statement whose expressions have these values.
func (m *model) effect(s api.Stmt, args []api.Value) {
	switch s.Kind {
	case api.SLet:
		m.scopes[len(m.scopes)-1][s.Name] = args[0]
	case api.SSet:
		m.scope(s.Name)[s.Name] = args[0]
	case api.SPut:
		at := m.find(s.Name, args[0])
		if at < 0 {
			trapIf(len(m.maps[s.Name]) == 24, api.TrapFull)
			m.maps[s.Name] = append(m.maps[s.Name], api.Entry{Key: args[0], Value: args[1]})
		} else {
			m.maps[s.Name][at].Value = args[1]
		}
	case api.SDel:
		if at := m.find(s.Name, args[0]); at >= 0 {
			m.maps[s.Name] = slices.Delete(m.maps[s.Name], at, at+1)
		}
	case api.SEmit:
		trapIf(len(m.told.Emits) == 12, api.TrapEmits)
		m.told.Emits = append(m.told.Emits, args[0].Text)
	case api.SAfter:
		trapIf(args[0].Int < 1 || args[0].Int > 1000 || m.waiting >= 12 || m.waiting+len(m.told.Plans) >= 12, api.TrapDelay)
		m.told.Plans = append(m.told.Plans, api.Plan{Delay: int(args[0].Int), Event: api.Event{Name: s.Name, Args: args[1:]}})
	}
}

// find: where a key is in a map, or -1.
func (m *model) find(name string, key api.Value) int {
	return slices.IndexFunc(m.maps[name], func(e api.Entry) bool { return order(e.Key, key) == 0 })
}

// leaves: whether a loop is left behind its body, and how it ends.
func leaves(s api.Stmt, e ending) (bool, ending) {
	isMine := e.label == "" || e.label == s.Label
	switch {
	case e.way == breaks && isMine:
		return true, ending{}
	case e.way == goesOn || e.way == continues && isMine:
		return false, ending{}
	}
	return true, e
}

func (m *model) while(s api.Stmt) ending {
	for {
		m.charge()
		if !m.isTrue(s.Args[0]) {
			return ending{}
		}
		if isLeft, e := leaves(s, m.block(s.Body, map[string]api.Value{})); isLeft {
			return e
		}
	}
}

func (m *model) each(s api.Stmt) ending {
	var last *api.Value
	for {
		m.charge()
		var least *api.Value
		for _, e := range m.maps[s.Name] {
			if (last == nil || order(e.Key, *last) > 0) && (least == nil || order(e.Key, *least) < 0) {
				least = &api.Value{Kind: e.Key.Kind, Int: e.Key.Int, Text: e.Key.Text}
			}
		}
		if least == nil {
			return ending{}
		}
		last = least
		if isLeft, e := leaves(s, m.block(s.Body, map[string]api.Value{s.Var: *least})); isLeft {
			return e
		}
	}
}

func (m *model) isTrue(e api.Expr) bool { return m.expr(e).Int == 1 }

// all: each wholly ahead of the next one.
func (m *model) all(list []api.Expr) []api.Value {
	var values []api.Value
	for _, e := range list {
		values = append(values, m.expr(e))
	}
	return values
}

func (m *model) expr(e api.Expr) api.Value {
	switch {
	case e.Op == api.OAnd:
		return truth(m.isTrue(e.Args[0]) && m.isTrue(e.Args[1]))
	case e.Op == api.OOr:
		return truth(m.isTrue(e.Args[0]) || m.isTrue(e.Args[1]))
	case e.Kind == api.EVar:
		return m.scope(e.Name)[e.Name]
	}
	args := m.all(e.Args)
	switch e.Kind {
	case api.EInt:
		return numbered(e.Int)
	case api.EText:
		return texted(e.Text)
	case api.EBool:
		return truth(e.Int == 1)
	case api.EField:
		fields := m.tree.Records[args[0].Rec].Params
		return args[0].Fields[slices.IndexFunc(fields, func(field api.Param) bool { return field.Name == e.Name })]
	case api.EMake:
		return m.record(e.Name, func(field string) api.Value { return args[slices.Index(e.Names, field)] })
	case api.EHas:
		return truth(m.find(e.Name, args[0]) >= 0)
	case api.EGet:
		if at := m.find(e.Name, args[0]); at >= 0 {
			return m.maps[e.Name][at].Value
		}
		return m.zero(declared(m.tree.Maps, e.Name).Value)
	case api.ECall:
		trapIf(m.open == 12, api.TrapDepth)
		m.open++
		v := m.body(*declared(m.tree.Funcs, e.Name), args)
		m.open--
		return v
	case api.EAsk:
		return m.answer(e.Name, args[0].Text)
	}
	return operated(e.Op, args)
}

// record: of a name, with its fields in the order of its declaration.
func (m *model) record(name string, field func(string) api.Value) api.Value {
	rec := slices.IndexFunc(m.tree.Records, func(d api.Decl) bool { return d.Name == name })
	v := api.Value{Kind: api.Record, Rec: rec}
	for _, param := range m.tree.Records[rec].Params {
		v.Fields = append(v.Fields, field(param.Name))
	}
	return v
}

func (m *model) zero(kind string) api.Value {
	switch kind {
	case "int":
		return numbered(0)
	case "text":
		return texted("")
	case "bool":
		return truth(false)
	}
	fields := declared(m.tree.Records, kind).Params
	return m.record(kind, func(name string) api.Value {
		return m.zero(fields[slices.IndexFunc(fields, func(field api.Param) bool { return field.Name == name })].Type)
	})
}

func (m *model) answer(port, text string) api.Value {
	n := len(m.told.Requests)
	trapIf(n == 4, api.TrapAsks)
	m.told.Requests = append(m.told.Requests, api.Request{N: n + 1, Port: port, Text: text})
	if n >= len(m.answers) {
		panic(stopped{end: api.Waits})
	}
	trapIf(len(m.answers[n]) > 64, api.TrapLong)
	return texted(m.answers[n])
}

// operated: an operator of arguments.
func operated(op int, args []api.Value) api.Value {
	a, b := args[0], args[len(args)-1]
	switch op {
	case api.OCat:
		trapIf(len(a.Text)+len(b.Text) > 64, api.TrapLong)
		return texted(a.Text + b.Text)
	case api.OEq:
		return truth(order(a, b) == 0)
	case api.ONe:
		return truth(order(a, b) != 0)
	case api.OLt:
		return truth(order(a, b) < 0)
	case api.OLe:
		return truth(order(a, b) <= 0)
	case api.OGt:
		return truth(order(a, b) > 0)
	case api.OGe:
		return truth(order(a, b) >= 0)
	case api.ONot:
		return truth(a.Int == 0)
	case api.OLen:
		return numbered(int64(len(a.Text)))
	case api.OStr:
		return texted(big.NewInt(a.Int).String())
	}
	return numbered(reckoned(op, big.NewInt(a.Int), big.NewInt(b.Int)))
}

// reckoned: exactly, then held against 64 bits with a sign.
func reckoned(op int, a, b *big.Int) int64 {
	n := new(big.Int)
	switch op {
	case api.OAdd, api.OWAdd:
		n.Add(a, b)
	case api.OSub, api.OWSub:
		n.Sub(a, b)
	case api.OMul, api.OWMul:
		n.Mul(a, b)
	case api.ONeg:
		n.Neg(a)
	case api.ODiv:
		trapIf(b.Sign() == 0, api.TrapZero)
		n.Quo(a, b)
	case api.OMod:
		trapIf(b.Sign() == 0, api.TrapZero)
		n.Rem(a, b)
	}
	if op == api.OWAdd || op == api.OWSub || op == api.OWMul {
		whole := new(big.Int).Lsh(big.NewInt(1), 64)
		if n.Mod(n, whole); n.Bit(63) == 1 {
			n.Sub(n, whole)
		}
	}
	trapIf(!n.IsInt64(), api.TrapOver)
	return n.Int64()
}
