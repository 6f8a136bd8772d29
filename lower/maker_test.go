package lower_test

import (
	"math"
	"math/rand"
	"slices"
	"strconv"
	"strings"

	"windlass/api"
	"windlass/tree"
)

// limits: of each function of the trees that are made: variables, statements and expressions, expressions of one statement, and how many of these or those stand one in the other.
type limits struct{ variables, parts, exprs, deep int }

var (
	small = limits{8, 60, 12, 4}
	// bounds: P13.1's; the inmost one of 13 is nested 12 deep.
	bounds = limits{20, 300, 30, 13}
)

// maker makes trees with names and types that fit, by chance.
type maker struct {
	*rand.Rand
	limit  limits
	tree   api.Tree
	scope  []api.Param // the variables in view
	labels []string    // of the loops around
	result string
	calls  int // how many of the functions may be called
	left   limits
	isCalm bool // of this tree few expressions and statements trap or ask
}

func (k *maker) pick(texts ...string) string { return texts[k.Intn(len(texts))] }

func (k *maker) anyType() string {
	kinds := []string{"int", "int", "text", "text", "bool"}
	for _, d := range k.tree.Records {
		kinds = append(kinds, d.Name)
	}
	return k.pick(kinds...)
}

func (k *maker) simpleType() string { return k.pick("int", "text", "bool") }

// params: named unlike one another, and unlike the maps.
func (k *maker) params(least, most int, kind func() string) []api.Param {
	var list []api.Param
	names := k.Perm(12)
	for i := range least + k.Intn(most-least+1) {
		list = append(list, api.Param{Name: "abcdefghijkl"[names[i] : names[i]+1], Type: kind()})
	}
	return list
}

// declare: all but bodies.
func (k *maker) declare() {
	k.tree = api.Tree{}
	for i := range k.Intn(4) {
		k.tree.Records = append(k.tree.Records, api.Decl{Name: "PQRS"[i : i+1], Params: k.params(1, 1+k.Intn(5), k.simpleType)})
	}
	for i := range 1 + k.Intn(4) {
		k.tree.Maps = append(k.tree.Maps, api.Decl{Name: "mnop"[i : i+1], Key: k.pick("int", "text"), Value: k.anyType()})
	}
	for i := range k.Intn(6) {
		k.tree.Funcs = append(k.tree.Funcs, api.Decl{Name: "fgabcd"[i : i+1], Params: k.params(0, k.Intn(6), k.anyType), Result: k.pick("", k.anyType(), k.anyType())})
	}
	for i := range 1 + k.Intn(3) {
		k.tree.Events = append(k.tree.Events, api.Decl{Name: "efg"[i : i+1], Params: k.params(0, k.Intn(5), k.anyType)})
	}
}

// whole: a tree that is taken.
func (k *maker) whole() api.Tree {
	k.declare()
	k.isCalm = k.Intn(3) > 0
	for i := range k.tree.Funcs {
		// Most functions call none but those ahead of them: else most runs would end by their depth.
		k.calls = i
		if k.Intn(12) == 0 {
			k.calls = len(k.tree.Funcs)
		}
		k.fill(&k.tree.Funcs[i])
	}
	k.calls = len(k.tree.Funcs)
	for i := range k.tree.Events {
		k.fill(&k.tree.Events[i])
	}
	return k.tree
}

func (k *maker) fill(d *api.Decl) {
	k.scope, k.labels, k.result, k.left = slices.Clone(d.Params), nil, d.Result, k.limit
	k.left.variables -= len(d.Params)
	end := 0
	if d.Result != "" {
		end = 1 + k.cost(d.Result)
	}
	k.left.parts -= end
	d.Body = k.list(k.limit.deep, 6+k.Intn(k.limit.parts))
	if d.Result != "" {
		k.left.parts += end
		args, _ := k.exprs(d.Result)
		d.Body = append(d.Body, k.taken(api.Stmt{Kind: api.SReturn, Args: args}))
	}
}

// block: its variables are in view up to its end alone.
func (k *maker) block(deep int) []api.Stmt {
	outside := len(k.scope)
	list := k.list(deep, k.Intn(5))
	k.scope = k.scope[:outside]
	return list
}

func (k *maker) list(deep, count int) []api.Stmt {
	var list []api.Stmt
	for range count {
		if k.left.parts < 1 {
			break
		}
		list = append(list, k.stmts(deep)...)
	}
	return list
}

// taken: a statement, whose own parts (not those of its bodies) are counted.
func (k *maker) taken(s api.Stmt) api.Stmt {
	k.left.parts -= 1 + size(s.Args)
	return s
}

func size(list []api.Expr) int {
	n := len(list)
	for _, e := range list {
		n += size(e.Args)
	}
	return n
}

// cost: the fewest parts of an expression that isn't a variable.
func (k *maker) cost(kind string) int {
	if d := declared(k.tree.Records, kind); d != nil {
		return 1 + len(d.Params)
	}
	return 1
}

// exprs: of one statement; false, if there are no parts left for them.
func (k *maker) exprs(kinds ...string) ([]api.Expr, bool) {
	most, fewest := min(k.limit.exprs, k.left.parts-1), 0
	for _, kind := range kinds {
		fewest += k.cost(kind)
	}
	if k.Intn(3) > 0 {
		most = min(most, fewest+k.Intn(k.limit.exprs))
	}
	return k.share(kinds, most, k.limit.deep)
}

// share: expressions of these types, of at most so many parts together.
func (k *maker) share(kinds []string, most, deep int) ([]api.Expr, bool) {
	for _, kind := range kinds {
		most -= k.cost(kind)
		if deep < 1 || deep < 2 && k.cost(kind) > 1 {
			return nil, false
		}
	}
	if most < 0 {
		return nil, false
	}
	var list []api.Expr
	for i, kind := range kinds {
		spare := most
		if i < len(kinds)-1 {
			spare = k.Intn(most + 1)
		}
		e := k.expr(kind, k.cost(kind)+spare, deep)
		most -= max(0, size([]api.Expr{e})-k.cost(kind))
		list = append(list, e)
	}
	return list, true
}

// free: a name that isn't taken.
func (k *maker) free() string {
	isNamed := func(name string) bool {
		return declared(k.tree.Maps, name) != nil || slices.ContainsFunc(k.scope, func(v api.Param) bool { return v.Name == name })
	}
	for {
		if name := k.pick("a", "b", "c", "d", "e", "f", "x", "v"+strconv.Itoa(k.Intn(60))); !isNamed(name) {
			return name
		}
	}
}

// stmts: one statement, or some that belong together; nothing, if what was to be made can't be.
func (k *maker) stmts(deep int) []api.Stmt {
	if deep > 1 && k.Intn(3) == 0 {
		switch k.Intn(3) {
		case 0:
			if args, ok := k.exprs("bool"); ok {
				s := k.taken(api.Stmt{Kind: api.SIf, Args: args})
				s.Body = k.block(deep - 1)
				if k.Intn(2) == 0 {
					s.Else = k.block(deep - 1)
				}
				return []api.Stmt{s}
			}
		case 1:
			return k.each(deep)
		case 2:
			return k.while(deep)
		}
	}
	return k.plain()
}

func (k *maker) plain() []api.Stmt {
	s := api.Stmt{Kind: api.SLet + k.Intn(13)}
	var kinds []string
	switch s.Kind {
	case api.SLet:
		kinds = []string{k.anyType()}
		s.Name = k.free()
		if k.left.variables < 1 {
			return nil
		}
	case api.SSet:
		if len(k.scope) == 0 {
			return nil
		}
		v := k.scope[k.Intn(len(k.scope))]
		s.Name, kinds = v.Name, []string{v.Type}
	case api.SPut, api.SDel:
		d := k.tree.Maps[k.Intn(len(k.tree.Maps))]
		s.Name, kinds = d.Name, []string{d.Key, d.Value}[:api.SDel-s.Kind+1]
	case api.SBreak, api.SContinue:
		if len(k.labels) == 0 || k.Intn(2) == 0 {
			return nil
		}
		s.Name = k.pick(append([]string{""}, k.labels...)...)
	case api.SReturn:
		if k.Intn(6) > 0 {
			return nil
		}
		if k.result != "" {
			kinds = []string{k.result}
		}
	case api.SEmit:
		kinds = []string{"text"}
	case api.SAfter:
		if k.isCalm && k.Intn(3) > 0 {
			return nil
		}
		d := k.tree.Events[k.Intn(len(k.tree.Events))]
		s.Name, kinds = d.Name, append([]string{"int"}, typesOf(d)...)
	case api.SDo, api.SIf, api.SWhile, api.SEach:
		return k.do()
	}
	args, ok := k.exprs(kinds...)
	if !ok {
		return nil
	}
	if s.Args = args; s.Kind == api.SAfter && (k.isCalm || k.Intn(4) > 0) {
		s.Args[0] = api.Expr{Kind: api.EInt, Int: 1 + k.Int63n(1000)}
	}
	if s.Kind == api.SLet {
		k.variable(s.Name, kinds[0])
	}
	return []api.Stmt{k.taken(s)}
}

func (k *maker) variable(name, kind string) {
	k.left.variables--
	k.scope = append(k.scope, api.Param{Name: name, Type: kind})
}

func typesOf(d api.Decl) []string {
	var list []string
	for _, param := range d.Params {
		list = append(list, param.Type)
	}
	return list
}

func (k *maker) do() []api.Stmt {
	if d := k.giving(""); d != nil {
		if args, ok := k.share(typesOf(*d), min(k.limit.exprs, k.left.parts-1)-1, k.limit.deep-1); ok {
			return []api.Stmt{k.taken(api.Stmt{Kind: api.SDo, Args: []api.Expr{{Kind: api.ECall, Name: d.Name, Args: args}}})}
		}
	}
	args, ok := k.exprs(k.anyType())
	if !ok {
		return nil
	}
	return []api.Stmt{k.taken(api.Stmt{Kind: api.SDo, Args: args})}
}

// label: often none; never one that a loop around has.
func (k *maker) label() string {
	label := k.pick("", "", "l", "k", "a")
	if slices.Contains(k.labels, label) {
		return ""
	}
	return label
}

func (k *maker) body(s *api.Stmt, deep int, ahead ...api.Stmt) {
	k.labels = append(k.labels, s.Label)
	s.Body = append(ahead, k.block(deep-1)...)
	k.labels = k.labels[:len(k.labels)-1]
}

func (k *maker) each(deep int) []api.Stmt {
	if k.left.variables < 1 {
		return nil
	}
	d := k.tree.Maps[k.Intn(len(k.tree.Maps))]
	s := k.taken(api.Stmt{Kind: api.SEach, Label: k.label(), Name: d.Name, Var: k.free()})
	outside := len(k.scope)
	k.variable(s.Var, d.Key)
	k.body(&s, deep)
	k.scope = k.scope[:outside]
	return []api.Stmt{s}
}

// while: most of them count, so that they come to an end.
func (k *maker) while(deep int) []api.Stmt {
	if k.left.variables < 1 || k.left.parts < 10 {
		return nil
	}
	if k.Intn(4) == 0 {
		args, ok := k.exprs("bool")
		if !ok {
			return nil
		}
		s := k.taken(api.Stmt{Kind: api.SWhile, Label: k.label(), Args: args})
		k.body(&s, deep)
		return []api.Stmt{s}
	}
	name := k.free()
	let := k.taken(api.Stmt{Kind: api.SLet, Name: name, Args: []api.Expr{{Kind: api.EInt}}})
	k.variable(name, "int")
	counter, one, most := api.Expr{Kind: api.EVar, Name: name}, api.Expr{Kind: api.EInt, Int: 1}, api.Expr{Kind: api.EInt, Int: k.Int63n(4)}
	s := k.taken(api.Stmt{Kind: api.SWhile, Label: k.label(), Args: []api.Expr{{Kind: api.EBinary, Op: api.OLt, Args: []api.Expr{counter, most}}}})
	count := k.taken(api.Stmt{Kind: api.SSet, Name: name, Args: []api.Expr{{Kind: api.EBinary, Op: api.OAdd, Args: []api.Expr{counter, one}}}})
	k.body(&s, deep, count)
	return []api.Stmt{let, s}
}

// giving: a function that may be called and gives a value of this type.
func (k *maker) giving(kind string) *api.Decl {
	for _, i := range k.Perm(k.calls) {
		if k.tree.Funcs[i].Result == kind {
			return &k.tree.Funcs[i]
		}
	}
	return nil
}

// expr: of a type, of at most so many parts.
func (k *maker) expr(kind string, most, deep int) api.Expr {
	if k.Intn(4) == 0 {
		for _, i := range k.Perm(len(k.scope)) {
			if v := k.scope[i]; v.Type == kind {
				return api.Expr{Kind: api.EVar, Name: v.Name}
			}
		}
	}
	if most > k.cost(kind) && deep > 1 {
		for range 3 {
			e, kinds := k.node(kind)
			if args, ok := k.share(kinds, most-1, deep-1); ok && e.Kind != 0 {
				e.Args = args
				return e
			}
		}
	}
	return k.literal(kind)
}

// node: an expression without its arguments, and of which types these are; nothing, if there is none.
func (k *maker) node(kind string) (api.Expr, []string) {
	switch k.Intn(6) {
	case 0, 1:
		if d := k.giving(kind); d != nil {
			return api.Expr{Kind: api.ECall, Name: d.Name}, typesOf(*d)
		}
	case 2:
		for _, i := range k.Perm(len(k.tree.Maps)) {
			d := k.tree.Maps[i]
			if d.Value == kind {
				return api.Expr{Kind: api.EGet, Name: d.Name}, []string{d.Key}
			}
			if kind == "bool" {
				return api.Expr{Kind: api.EHas, Name: d.Name}, []string{d.Key}
			}
		}
	case 3:
		for _, i := range k.Perm(len(k.tree.Records)) {
			d := k.tree.Records[i]
			for _, field := range d.Params {
				if field.Type == kind {
					return api.Expr{Kind: api.EField, Name: field.Name}, []string{d.Name}
				}
			}
		}
	}
	if d := declared(k.tree.Records, kind); d != nil {
		e := api.Expr{Kind: api.EMake, Name: kind}
		var kinds []string
		for _, i := range k.Perm(len(d.Params)) {
			e.Names = append(e.Names, d.Params[i].Name)
			kinds = append(kinds, d.Params[i].Type)
		}
		return e, kinds
	}
	return k.operation(kind)
}

// operation: that gives a simple type.
func (k *maker) operation(kind string) (api.Expr, []string) {
	op, asked := 0, "int"
	isWild := !k.isCalm || k.Intn(20) == 0
	switch kind {
	case "int":
		op = []int{api.OAdd, api.OSub, api.OMul, api.OWAdd, api.OWSub, api.OWMul, api.ONeg, api.OLen, api.ODiv, api.OMod}[k.Intn(10)]
		if !isWild && (op == api.ODiv || op == api.OMod) {
			op = api.OSub
		}
	case "text":
		op = []int{api.OStr, api.OStr, api.OCat, api.OCat, 0}[k.Intn(5)]
		if !isWild && k.Intn(3) > 0 {
			op = api.OStr
		}
		if op == 0 {
			return api.Expr{Kind: api.EAsk, Name: k.pick("a", "m", "port")}, []string{"text"}
		}
	case "bool":
		op = []int{api.OEq, api.ONe, api.OLt, api.OLe, api.OGt, api.OGe, api.OAnd, api.OAnd, api.OOr, api.OOr, api.ONot}[k.Intn(11)]
		asked = k.pick("int", "text")
	}
	switch op {
	case api.OCat, api.OLen:
		asked = "text"
	case api.OAnd, api.OOr, api.ONot:
		asked = "bool"
	case api.OEq, api.ONe:
		asked = k.simpleType()
	}
	if op >= api.ONeg {
		return api.Expr{Kind: api.EUnary, Op: op}, []string{asked}
	}
	return api.Expr{Kind: api.EBinary, Op: op}, []string{asked, asked}
}

func (k *maker) literal(kind string) api.Expr {
	switch kind {
	case "int":
		if !k.isCalm && k.Intn(40) == 0 {
			return api.Expr{Kind: api.EInt, Int: []int64{math.MinInt64, math.MaxInt64, 1 << 32}[k.Intn(3)]}
		}
		return api.Expr{Kind: api.EInt, Int: k.Int63n(9) - 2}
	case "text":
		return api.Expr{Kind: api.EText, Text: k.pick("", "a", "b", "ba", strings.Repeat("c", 1+k.Intn(20)))}
	case "bool":
		return api.Expr{Kind: api.EBool, Int: k.Int63n(2)}
	}
	d := declared(k.tree.Records, kind)
	e := api.Expr{Kind: api.EMake, Name: kind}
	for _, i := range k.Perm(len(d.Params)) {
		e.Names = append(e.Names, d.Params[i].Name)
		e.Args = append(e.Args, k.literal(d.Params[i].Type))
	}
	return e
}

// value: of a type, small.
func (k *maker) value(kind string) api.Value {
	m := model{tree: k.tree}
	switch kind {
	case "int":
		return numbered(k.Int63n(9) - 2)
	case "text":
		return texted(k.pick("", "a", "b", "ba"))
	case "bool":
		return truth(k.Intn(2) == 0)
	}
	d := declared(k.tree.Records, kind)
	return m.record(kind, func(name string) api.Value {
		return k.value(d.Params[slices.IndexFunc(d.Params, func(field api.Param) bool { return field.Name == name })].Type)
	})
}

// state: of the tree; now and then a map is full.
func (k *maker) state() api.State {
	var s api.State
	for _, d := range k.tree.Maps {
		var entries []api.Entry
		count := k.Intn(4)
		if k.Intn(20) == 0 {
			count = 24
		}
		for i := range count {
			key := numbered(int64(i) - 1)
			if d.Key == "text" {
				key = texted(strings.Repeat("a", i))
			}
			entries = append(entries, api.Entry{Key: key, Value: k.value(d.Value)})
		}
		s.Maps = append(s.Maps, entries)
	}
	return s
}

func (k *maker) event() api.Event {
	d := k.tree.Events[k.Intn(len(k.tree.Events))]
	e := api.Event{Name: d.Name}
	for _, kind := range typesOf(d) {
		e.Args = append(e.Args, k.value(kind))
	}
	return e
}

// answers: now and then one that is too long.
func (k *maker) answers() []string {
	var list []string
	for range 6 {
		list = append(list, k.pick("", "a", "b", strings.Repeat("d", 64)))
	}
	if k.Intn(8) == 0 {
		list[k.Intn(4)] = strings.Repeat("e", 65)
	}
	return list
}

// printed: a tree as a source; of a long one the beginning.
func printed(x api.Tree) string {
	s, _ := tree.Print(x)
	return s[:min(len(s), 4000)]
}
