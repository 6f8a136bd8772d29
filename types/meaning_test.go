package types_test

import (
	"math/rand"
	"slices"
	"strconv"
	"testing"

	"windlass/api"
	"windlass/types"
	"windlass/value"
)

// machine does what a tree says, step by step; where it can't go on for want of a meaning it panics with a senseless.
type machine struct {
	tree   api.Tree
	p      api.Program
	maps   map[string][]api.Entry
	blocks []map[string]api.Value
	steps  int
	open   int // calls
}

type senseless string

// stopped: an end that has a meaning: a trap, too many steps.
type stopped struct{}

// ways in which a statement ends.
const (
	goesOn = iota
	breaks
	continues
	returns
)

// end: how a statement ended, which loop it leaves, what it gives back.
type end struct {
	way   int
	label string
	gives api.Value
}

func need(ok bool, what string) {
	if !ok {
		panic(senseless(what))
	}
}

func (m *machine) step() {
	if m.steps++; m.steps > 500 {
		panic(stopped{})
	}
}

// wantMeaning: that each handler of a tree that is taken can be run, with values of all the types that are told.
func wantMeaning(t *testing.T, r *rand.Rand, x api.Tree) {
	t.Helper()
	p, _, err := types.Check(x)
	if err != api.OK {
		t.Fatalf("%s: %d", shown(x), err)
	}
	m := machine{tree: x, p: p, maps: map[string][]api.Entry{}}
	for i, d := range x.Events {
		for range 3 {
			var args []api.Value
			for _, kind := range p.Events[i].Params {
				args = append(args, someValue(r, p, kind))
			}
			m.wantRun(t, d, args)
		}
	}
}

func (m *machine) wantRun(t *testing.T, d api.Decl, args []api.Value) {
	t.Helper()
	defer func() {
		switch e := recover().(type) {
		case nil, stopped:
		case senseless:
			t.Errorf("%s: %s: %s", shown(m.tree), d.Name, string(e))
		default:
			panic(e)
		}
	}()
	m.steps, m.open, m.blocks = 0, 0, nil
	m.run(d, args, none)
}

func someValue(r *rand.Rand, p api.Program, kind api.Type) api.Value {
	v := value.Zero(p, kind)
	for i := range v.Fields {
		v.Fields[i] = someValue(r, p, p.Records[kind.Rec].Types[i])
	}
	switch kind {
	case intType:
		v.Int = r.Int63n(5) - 2
	case textType:
		v.Text = []string{"", "a", "b"}[r.Intn(3)]
	case boolType:
		v.Int = r.Int63n(2)
	}
	return v
}

// run: of a function or a handler, with its arguments; variables of those who call aren't in view.
func (m *machine) run(d api.Decl, args []api.Value, result api.Type) api.Value {
	m.step()
	if m.open++; m.open > api.MaxCalls {
		panic(stopped{})
	}
	outside := m.blocks
	need(len(args) == len(d.Params), "as many arguments")
	params := map[string]api.Value{}
	for i, param := range d.Params {
		need(value.Is(m.p, typeOf(m.p, param.Type), args[i]), "an argument's type")
		params[param.Name] = args[i]
	}
	m.blocks = nil
	e := m.block(d.Body, params)
	need(e.way == goesOn || e.way == returns, "a loop to leave")
	need(result == none && e.gives.Kind == api.None || e.way == returns && value.Is(m.p, result, e.gives), "a result")
	m.blocks = outside
	m.open--
	return e.gives
}

func (m *machine) block(list []api.Stmt, own map[string]api.Value) end {
	m.blocks = append(m.blocks, own)
	var e end
	for _, s := range list {
		if e = m.stmt(s); e.way != goesOn {
			break
		}
	}
	m.blocks = m.blocks[:len(m.blocks)-1]
	return e
}

// holder: the one block that has a variable.
func (m *machine) holder(name string) map[string]api.Value {
	var holder map[string]api.Value
	for _, b := range m.blocks {
		if _, ok := b[name]; ok {
			need(holder == nil, "one variable of a name")
			holder = b
		}
	}
	need(holder != nil, "a variable")
	return holder
}

func (m *machine) bind(name string, v api.Value) {
	need(m.isType(v), "a value to keep")
	for _, b := range m.blocks {
		_, ok := b[name]
		need(!ok, "a new name")
	}
	need(find(m.tree.Maps, name) == nil, "a name that no map has")
	m.blocks[len(m.blocks)-1][name] = v
}

func (m *machine) isType(v api.Value) bool {
	return v.Kind != api.None && value.Is(m.p, api.Type{Kind: v.Kind, Rec: v.Rec}, v)
}

func sameType(a, b api.Value) bool { return a.Kind == b.Kind && a.Rec == b.Rec }

// test: a truth, and only that.
func (m *machine) test(e api.Expr) bool {
	v := m.expr(e)
	need(value.Is(m.p, boolType, v), "a truth")
	return v.Int == 1
}

func (m *machine) stmt(s api.Stmt) end {
	m.step()
	switch s.Kind {
	case api.SLet:
		m.bind(s.Name, m.expr(s.Args[0]))
	case api.SSet:
		holder, v := m.holder(s.Name), m.expr(s.Args[0])
		need(sameType(holder[s.Name], v) && m.isType(v), "a variable's type")
		holder[s.Name] = v
	case api.SPut, api.SDel:
		m.change(s)
	case api.SIf:
		if m.test(s.Args[0]) {
			return m.block(s.Body, map[string]api.Value{})
		}
		return m.block(s.Else, map[string]api.Value{})
	case api.SWhile:
		return m.while(s)
	case api.SEach:
		return m.each(s)
	case api.SBreak:
		return end{way: breaks, label: s.Name}
	case api.SContinue:
		return end{way: continues, label: s.Name}
	case api.SReturn:
		e := end{way: returns}
		for _, arg := range s.Args {
			e.gives = m.expr(arg)
			need(m.isType(e.gives), "a value to give back")
		}
		return e
	case api.SEmit:
		need(m.expr(s.Args[0]).Kind == api.Text, "a text to emit")
	case api.SAfter:
		m.after(s)
	case api.SDo:
		m.expr(s.Args[0])
	}
	return end{}
}

func (m *machine) after(s api.Stmt) {
	d := find(m.tree.Events, s.Name)
	need(d != nil && len(d.Params) == len(s.Args)-1, "a handler")
	need(m.expr(s.Args[0]).Kind == api.Int, "a delay")
	for i, param := range d.Params {
		need(value.Is(m.p, typeOf(m.p, param.Type), m.expr(s.Args[i+1])), "a handler's argument")
	}
}

func (m *machine) mapNamed(name string) *api.Decl {
	d := find(m.tree.Maps, name)
	need(d != nil, "a map")
	return d
}

func (m *machine) key(d *api.Decl, e api.Expr) api.Value {
	k := m.expr(e)
	need(value.Is(m.p, typeOf(m.p, d.Key), k), "a key's type")
	return k
}

// entry: where a key's entry is in a map, -1 if it has none.
func (m *machine) entry(name string, k api.Value) int {
	return slices.IndexFunc(m.maps[name], func(entry api.Entry) bool { return value.Same(entry.Key, k) })
}

func (m *machine) change(s api.Stmt) {
	d := m.mapNamed(s.Name)
	k := m.key(d, s.Args[0])
	var added []api.Entry
	if s.Kind == api.SPut {
		v := m.expr(s.Args[1])
		need(value.Is(m.p, typeOf(m.p, d.Value), v), "a value's type")
		added = []api.Entry{{Key: k, Value: v}}
	}
	if i := m.entry(d.Name, k); i >= 0 {
		m.maps[d.Name] = slices.Delete(m.maps[d.Name], i, i+1)
	}
	m.maps[d.Name] = append(m.maps[d.Name], added...)
}

// leaves: whether a loop is left behind its body, and how it ends.
func leaves(s api.Stmt, e end) (bool, end) {
	mine := e.label == "" || e.label == s.Label
	switch {
	case e.way == breaks && mine:
		return true, end{}
	case e.way == goesOn || e.way == continues && mine:
		return false, end{}
	}
	return true, e
}

func (m *machine) while(s api.Stmt) end {
	for m.test(s.Args[0]) {
		m.step()
		if left, e := leaves(s, m.block(s.Body, map[string]api.Value{})); left {
			return e
		}
	}
	return end{}
}

func (m *machine) each(s api.Stmt) end {
	d := m.mapNamed(s.Name)
	for _, entry := range slices.Clone(m.maps[d.Name]) {
		m.step()
		m.blocks = append(m.blocks, map[string]api.Value{})
		m.bind(s.Var, entry.Key)
		e := m.block(s.Body, map[string]api.Value{})
		m.blocks = m.blocks[:len(m.blocks)-1]
		if left, e := leaves(s, e); left {
			return e
		}
	}
	return end{}
}

func (m *machine) expr(e api.Expr) api.Value {
	m.step()
	if e.Op == api.OAnd || e.Op == api.OOr {
		first := m.test(e.Args[0])
		if first == (e.Op == api.OOr) {
			return truth(first)
		}
		return truth(m.test(e.Args[1]))
	}
	switch e.Kind {
	case api.EGet, api.EHas:
		d := m.mapNamed(e.Name)
		i := m.entry(d.Name, m.key(d, e.Args[0]))
		if e.Kind == api.EHas {
			return truth(i >= 0)
		}
		if i < 0 {
			return value.Zero(m.p, typeOf(m.p, d.Value))
		}
		return m.maps[d.Name][i].Value
	case api.EVar:
		return m.holder(e.Name)[e.Name]
	}
	var args []api.Value
	for _, arg := range e.Args {
		args = append(args, m.expr(arg))
	}
	return m.of(e, args)
}

// of: an expression's value, by those of its arguments.
func (m *machine) of(e api.Expr, args []api.Value) api.Value {
	switch e.Kind {
	case api.EInt, api.EText, api.EBool:
		return api.Value{Kind: map[int]int{api.EInt: api.Int, api.EText: api.Text, api.EBool: api.Bool}[e.Kind], Int: e.Int, Text: e.Text}
	case api.EUnary:
		return unaryOf(e.Op, args[0])
	case api.EBinary:
		return binaryOf(e.Op, args[0], args[1])
	case api.EField:
		need(args[0].Kind == api.Record, "a record")
		i := slices.Index(m.p.Records[args[0].Rec].Fields, e.Name)
		need(i >= 0, "a field")
		return args[0].Fields[i]
	case api.EMake:
		rec := slices.IndexFunc(m.p.Records, func(r api.RecordType) bool { return r.Name == e.Name })
		need(rec >= 0, "a record's name")
		v := api.Value{Kind: api.Record, Rec: rec}
		for _, field := range m.p.Records[rec].Fields {
			i := slices.Index(e.Names, field)
			need(i >= 0, "each field")
			v.Fields = append(v.Fields, args[i])
		}
		need(len(args) == len(v.Fields) && m.isType(v), "a record's fields")
		return v
	case api.ECall:
		d := find(m.tree.Funcs, e.Name)
		need(d != nil, "a function")
		return m.run(*d, args, typeOf(m.p, d.Result))
	}
	need(args[0].Kind == api.Text, "a text to ask")
	return api.Value{Kind: api.Text, Text: "told"}
}

func truth(b bool) api.Value {
	v := api.Value{Kind: api.Bool}
	if b {
		v.Int = 1
	}
	return v
}

func unaryOf(op int, a api.Value) api.Value {
	need(a.Kind == map[int]int{api.ONeg: api.Int, api.ONot: api.Bool, api.OLen: api.Text, api.OStr: api.Int}[op], "an operator's argument")
	switch op {
	case api.ONeg:
		a.Int = -a.Int
	case api.ONot:
		a.Int = 1 - a.Int
	case api.OLen:
		return api.Value{Kind: api.Int, Int: int64(len(a.Text))}
	case api.OStr:
		return api.Value{Kind: api.Text, Text: strconv.FormatInt(a.Int, 10)}
	}
	return a
}

func binaryOf(op int, a, b api.Value) api.Value {
	need(sameType(a, b), "two of one type")
	order := value.Compare(a, b)
	switch op {
	case api.OCat:
		need(a.Kind == api.Text, "two texts")
		if len(a.Text)+len(b.Text) > api.MaxText {
			panic(stopped{})
		}
		return api.Value{Kind: api.Text, Text: a.Text + b.Text}
	case api.OEq, api.ONe:
		need(a.Kind == api.Int || a.Kind == api.Text || a.Kind == api.Bool, "what can be alike")
		return truth((order == 0) == (op == api.OEq))
	case api.OLt, api.OLe, api.OGt, api.OGe:
		need(a.Kind == api.Int || a.Kind == api.Text, "what has an order")
		return truth(map[int]bool{api.OLt: order < 0, api.OLe: order <= 0, api.OGt: order > 0, api.OGe: order >= 0}[op])
	}
	need(a.Kind == api.Int, "two integers")
	switch op {
	case api.OAdd, api.OWAdd:
		a.Int += b.Int
	case api.OSub, api.OWSub:
		a.Int -= b.Int
	case api.OMul, api.OWMul:
		a.Int *= b.Int
	case api.ODiv, api.OMod:
		if b.Int == 0 {
			panic(stopped{})
		}
		a.Int = map[int]int64{api.ODiv: a.Int / b.Int, api.OMod: a.Int % b.Int}[op]
	}
	return a
}

// P8.4: what is taken can be done: each name that is come by is there, each value of the type that is asked, each function gives what it says.
func TestWhatIsTakenHasAMeaning(t *testing.T) {
	r := rand.New(rand.NewSource(84))
	k := maker{Rand: r}
	taken := 0
	for range 1500 {
		x := k.whole()
		wantMeaning(t, r, x)
		for range 4 {
			k.spoil(&x)
			if _, _, err := types.Check(x); err == api.OK {
				wantMeaning(t, r, x)
				taken++
			}
		}
	}
	if taken < 1000 {
		t.Errorf("only %d are taken", taken)
	}
	for _, source := range []string{head, in("each k in m { n[str(k)] = k; } i = n[w];"), in("let a = p(r, c); m[a.x] = a; each k in m { if k == 3 { break; } emit m[k].s; }"), in("l: while c { while true { if c { continue l; } break l; } }"), in("if has m[1] { return; } else { let a = q().b; c = a; } after 1 e(i, w, c, r, z);")} {
		wantMeaning(t, r, read(t, source))
	}
}
