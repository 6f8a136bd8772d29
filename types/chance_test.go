package types_test

import (
	"math/rand"
	"slices"
	"strconv"

	"windlass/api"
)

// maker makes trees with names and types that fit, by chance.
type maker struct {
	*rand.Rand
	tree   api.Tree
	scope  []api.Param // the variables in view
	labels []string    // of the loops around
	result string
}

func (k *maker) pick(texts ...string) string { return texts[k.Intn(len(texts))] }

// anyType: of those that there are.
func (k *maker) anyType() string {
	kinds := []string{"int", "text", "bool"}
	for _, d := range k.tree.Records {
		kinds = append(kinds, d.Name)
	}
	return k.pick(kinds...)
}

// params: named unlike one another, and unlike the maps.
func (k *maker) params(least int, kind func() string) []api.Param {
	var list []api.Param
	names := k.Perm(10)
	for i := range least + k.Intn(4) {
		list = append(list, api.Param{Name: "abcdefghij"[names[i] : names[i]+1], Type: kind()})
	}
	return list
}

// declare: all but bodies.
func (k *maker) declare() {
	k.tree = api.Tree{}
	for i := range k.Intn(4) {
		k.tree.Records = append(k.tree.Records, api.Decl{Name: "PQRS"[i : i+1], Params: k.params(1, func() string { return k.pick("int", "text", "bool") })})
	}
	for i := range k.Intn(5) {
		k.tree.Maps = append(k.tree.Maps, api.Decl{Name: "mnop"[i : i+1], Key: k.pick("int", "text"), Value: k.anyType()})
	}
	for i := range k.Intn(5) {
		k.tree.Funcs = append(k.tree.Funcs, api.Decl{Name: "fgab"[i : i+1], Params: k.params(0, k.anyType), Result: k.pick("", k.anyType())})
	}
	for i := range 1 + k.Intn(3) {
		k.tree.Events = append(k.tree.Events, api.Decl{Name: "efg"[i : i+1], Params: k.params(0, k.anyType)})
	}
}

// whole: a tree that is taken.
func (k *maker) whole() api.Tree {
	k.declare()
	for _, list := range [][]api.Decl{k.tree.Funcs, k.tree.Events} {
		for i := range list {
			d := &list[i]
			k.scope, k.labels, k.result = slices.Clone(d.Params), nil, d.Result
			d.Body = k.block(3)
			if d.Result != "" {
				d.Body = append(d.Body, k.ending(2)...)
			}
		}
	}
	return k.tree
}

// ending: statements that end a function with a result.
func (k *maker) ending(deep int) []api.Stmt {
	if deep > 0 && k.Intn(3) == 0 {
		return []api.Stmt{{Kind: api.SIf, Args: k.exprs("bool"), Body: k.ending(deep - 1), Else: k.ending(deep - 1)}}
	}
	return []api.Stmt{{Kind: api.SReturn, Args: k.exprs(k.result)}}
}

// block: its variables are in view up to its end alone.
func (k *maker) block(deep int) []api.Stmt {
	var list []api.Stmt
	outside := len(k.scope)
	for range k.Intn(deep + 2) {
		list = append(list, k.stmt(deep-1))
	}
	if deep < 3 || k.result == "" { // a function's ending may still use them
		k.scope = k.scope[:outside]
	}
	return list
}

// free: a name that isn't taken.
func (k *maker) free() string {
	for {
		name := k.pick("a", "b", "c", "d", "e", "f", "x", "v"+strconv.Itoa(k.Intn(30)))
		if findParam(k.scope, name) == nil && find(k.tree.Maps, name) == nil {
			return name
		}
	}
}

func (k *maker) exprs(kinds ...string) []api.Expr {
	var list []api.Expr
	for _, kind := range kinds {
		list = append(list, k.expr(kind, 1+k.Intn(3)))
	}
	return list
}

func (k *maker) stmt(deep int) api.Stmt {
	if deep > 0 {
		switch k.Intn(7) {
		case 0, 1:
			return api.Stmt{Kind: api.SIf, Args: k.exprs("bool"), Body: k.block(deep), Else: k.block(deep)}
		case 2, 3:
			return k.loop(deep)
		}
	}
	switch kind := api.SLet + k.Intn(13); kind {
	case api.SLet:
		kind := k.anyType()
		s := api.Stmt{Kind: api.SLet, Args: k.exprs(kind), Name: k.free()}
		k.scope = append(k.scope, api.Param{Name: s.Name, Type: kind})
		return s
	case api.SSet:
		if len(k.scope) > 0 {
			v := k.scope[k.Intn(len(k.scope))]
			return api.Stmt{Kind: kind, Name: v.Name, Args: k.exprs(v.Type)}
		}
	case api.SPut, api.SDel:
		if len(k.tree.Maps) > 0 {
			d := k.tree.Maps[k.Intn(len(k.tree.Maps))]
			return api.Stmt{Kind: kind, Name: d.Name, Args: k.exprs([]string{d.Key, d.Value}[:api.SDel-kind+1]...)}
		}
	case api.SBreak, api.SContinue:
		if len(k.labels) > 0 {
			return api.Stmt{Kind: kind, Name: k.pick(append([]string{""}, k.labels...)...)}
		}
	case api.SReturn:
		if k.result != "" {
			return api.Stmt{Kind: kind, Args: k.exprs(k.result)}
		}
		return api.Stmt{Kind: kind}
	case api.SEmit:
		return api.Stmt{Kind: kind, Args: k.exprs("text")}
	case api.SAfter:
		d := k.tree.Events[k.Intn(len(k.tree.Events))]
		return api.Stmt{Kind: kind, Name: d.Name, Args: append(k.exprs("int"), k.args(d, 2)...)}
	}
	if d := k.giving(""); d != nil && k.Intn(2) == 0 {
		return api.Stmt{Kind: api.SDo, Args: []api.Expr{{Kind: api.ECall, Name: d.Name, Args: k.args(*d, 2)}}}
	}
	return api.Stmt{Kind: api.SDo, Args: k.exprs(k.anyType())}
}

func (k *maker) loop(deep int) api.Stmt {
	s := api.Stmt{Kind: api.SWhile, Label: k.pick("", "", "l", "k", "a")}
	if slices.Contains(k.labels, s.Label) {
		s.Label = ""
	}
	outside, around := len(k.scope), len(k.labels)
	if len(k.tree.Maps) > 0 && k.Intn(2) == 0 {
		d := k.tree.Maps[k.Intn(len(k.tree.Maps))]
		s.Kind, s.Name, s.Var = api.SEach, d.Name, k.free()
		k.scope = append(k.scope, api.Param{Name: s.Var, Type: d.Key})
	} else {
		s.Args = k.exprs("bool")
	}
	k.labels = append(k.labels, s.Label)
	s.Body = k.block(deep)
	k.scope, k.labels = k.scope[:outside], k.labels[:around]
	return s
}

// giving: a function that gives a value of this type.
func (k *maker) giving(kind string) *api.Decl {
	for _, i := range k.Perm(len(k.tree.Funcs)) {
		if k.tree.Funcs[i].Result == kind {
			return &k.tree.Funcs[i]
		}
	}
	return nil
}

func (k *maker) args(d api.Decl, deep int) []api.Expr {
	var list []api.Expr
	for _, param := range d.Params {
		list = append(list, k.expr(param.Type, deep-1))
	}
	return list
}

// expr: of a type.
func (k *maker) expr(kind string, deep int) api.Expr {
	if k.Intn(3) == 0 {
		for _, i := range k.Perm(len(k.scope)) {
			if v := k.scope[i]; v.Type == kind {
				return api.Expr{Kind: api.EVar, Name: v.Name}
			}
		}
	}
	if deep > 0 {
		switch k.Intn(5) {
		case 0:
			if d := k.giving(kind); d != nil {
				return api.Expr{Kind: api.ECall, Name: d.Name, Args: k.args(*d, deep)}
			}
		case 1:
			for _, i := range k.Perm(len(k.tree.Maps)) {
				if d := k.tree.Maps[i]; d.Value == kind {
					return api.Expr{Kind: api.EGet, Name: d.Name, Args: []api.Expr{k.expr(d.Key, deep-1)}}
				}
			}
		case 2:
			if e := k.field(kind, deep); e.Kind != 0 {
				return e
			}
		}
		if e := k.operation(kind, deep); e.Kind != 0 {
			return e
		}
	}
	return k.literal(kind, deep)
}

func (k *maker) literal(kind string, deep int) api.Expr {
	switch kind {
	case "int":
		return api.Expr{Kind: api.EInt, Int: k.Int63n(9) - 3}
	case "text":
		return api.Expr{Kind: api.EText, Text: k.pick("", "a", "b")}
	case "bool":
		return api.Expr{Kind: api.EBool, Int: k.Int63n(2)}
	}
	d := find(k.tree.Records, kind)
	e := api.Expr{Kind: api.EMake, Name: kind}
	for _, i := range k.Perm(len(d.Params)) {
		e.Names = append(e.Names, d.Params[i].Name)
		e.Args = append(e.Args, k.expr(d.Params[i].Type, deep-1))
	}
	return e
}

// field: of a record that has one of this type; nothing, if there is none.
func (k *maker) field(kind string, deep int) api.Expr {
	for _, i := range k.Perm(len(k.tree.Records)) {
		for _, field := range k.tree.Records[i].Params {
			if field.Type == kind {
				return api.Expr{Kind: api.EField, Name: field.Name, Args: []api.Expr{k.expr(k.tree.Records[i].Name, deep-1)}}
			}
		}
	}
	return api.Expr{}
}

// operation: that gives a simple type; nothing of another one.
func (k *maker) operation(kind string, deep int) api.Expr {
	if kind == "text" && k.Intn(4) == 0 {
		return api.Expr{Kind: api.EAsk, Name: k.pick("a", "m", "port"), Args: []api.Expr{k.expr("text", deep-1)}}
	}
	if len(k.tree.Maps) > 0 && kind == "bool" && k.Intn(4) == 0 {
		d := k.tree.Maps[k.Intn(len(k.tree.Maps))]
		return api.Expr{Kind: api.EHas, Name: d.Name, Args: []api.Expr{k.expr(d.Key, deep-1)}}
	}
	for _, i := range k.Perm(api.OStr) {
		op := i + 1
		if operators[op][1] != kind {
			continue
		}
		asked := "int"
		switch op {
		case api.OCat, api.OLen:
			asked = "text"
		case api.OAnd, api.OOr, api.ONot:
			asked = "bool"
		case api.OEq, api.ONe:
			asked = k.pick("int", "text", "bool")
		case api.OLt, api.OLe, api.OGt, api.OGe:
			asked = k.pick("int", "text")
		}
		e := api.Expr{Kind: api.EBinary, Op: op, Args: []api.Expr{k.expr(asked, deep-1)}}
		if op >= api.ONeg {
			e.Kind = api.EUnary
			return e
		}
		e.Args = append(e.Args, k.expr(asked, deep-1))
		return e
	}
	return api.Expr{}
}
