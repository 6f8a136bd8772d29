package types_test

import (
	"math/rand"
	"slices"
	"testing"

	"windlass/api"
	"windlass/tree"
	"windlass/types"
	"windlass/value"
)

func shown(t api.Tree) string {
	s, err := tree.Print(t)
	if err != api.OK || len(s) > 3000 {
		return "a tree"
	}
	return s
}

// spread: a copy in memory of its own, with spare room behind each list, and At changed everywhere.
func spread(t api.Tree, at func(int) int) api.Tree {
	return api.Tree{Records: spreadDecls(t.Records, at), Maps: spreadDecls(t.Maps, at), Funcs: spreadDecls(t.Funcs, at), Events: spreadDecls(t.Events, at)}
}

func keep(at int) int { return at }

func roomy[T any](list []T) []T { return append(make([]T, 0, len(list)+2), list...) }

func spreadDecls(list []api.Decl, at func(int) int) []api.Decl {
	list = roomy(list)
	for i := range list {
		d := &list[i]
		d.At, d.Params, d.Body = at(d.At), roomy(d.Params), spreadStmts(d.Body, at)
	}
	return list
}

func spreadStmts(list []api.Stmt, at func(int) int) []api.Stmt {
	list = roomy(list)
	for i := range list {
		s := &list[i]
		s.At, s.Args, s.Body, s.Else = at(s.At), spreadExprs(s.Args, at), spreadStmts(s.Body, at), spreadStmts(s.Else, at)
	}
	return list
}

func spreadExprs(list []api.Expr, at func(int) int) []api.Expr {
	list = roomy(list)
	for i := range list {
		e := &list[i]
		e.At, e.Names, e.Args = at(e.At), roomy(e.Names), spreadExprs(e.Args, at)
	}
	return list
}

// placed: a copy, with an At of its own everywhere.
func placed(t api.Tree) api.Tree {
	at := 0
	return spread(t, func(int) int {
		at++
		return at
	})
}

// pieces: all that a tree is made of, to be changed.
type pieces struct {
	decls  []*api.Decl
	bodies []*[]api.Stmt
	stmts  []*api.Stmt
	exprs  []*api.Expr
}

func piecesOf(t *api.Tree) *pieces {
	var p pieces
	for _, list := range [][]api.Decl{t.Records, t.Maps, t.Funcs, t.Events} {
		for i := range list {
			p.decls = append(p.decls, &list[i])
			p.addBody(&list[i].Body)
		}
	}
	return &p
}

func (p *pieces) addBody(body *[]api.Stmt) {
	p.bodies = append(p.bodies, body)
	for i := range *body {
		s := &(*body)[i]
		p.stmts = append(p.stmts, s)
		p.addExprs(s.Args)
		p.addBody(&s.Body)
		p.addBody(&s.Else)
	}
}

func (p *pieces) addExprs(list []api.Expr) {
	for i := range list {
		p.exprs = append(p.exprs, &list[i])
		p.addExprs(list[i].Args)
	}
}

func (k *maker) name() string {
	return k.pick("a", "b", "c", "d", "e", "f", "g", "m", "n", "o", "x", "nope", "v1")
}

// spoil changes one thing of a tree, by chance.
func (k *maker) spoil(t *api.Tree) {
	p := piecesOf(t)
	switch {
	case k.Intn(6) == 0:
		k.spoilDecl(p.decls[k.Intn(len(p.decls))])
	case len(p.stmts) > 0 && k.Intn(3) == 0:
		k.spoilStmt(p.stmts[k.Intn(len(p.stmts))])
	case len(p.exprs) > 0 && k.Intn(5) > 0:
		k.spoilExpr(p.exprs[k.Intn(len(p.exprs))], p.exprs)
	case len(p.stmts) > 0:
		k.spoilBody(p.bodies[k.Intn(len(p.bodies))], spreadStmts([]api.Stmt{*p.stmts[k.Intn(len(p.stmts))]}, keep)[0])
	}
}

// spoilDecl: mostly so that there is still a tree.
func (k *maker) spoilDecl(d *api.Decl) {
	great := d.Name < "a"
	switch k.Intn(7) {
	case 0, 1:
		d.Name = k.pick("m", "n", "f", "g", "e")
		if great {
			d.Name = k.pick("P", "Q", "R")
		}
	case 2:
		if d.Value != "" {
			d.Value = k.pick("P", "S", "int")
		}
	case 3:
		if d.Result != "" {
			d.Result = k.pick("", "int", "text", "P", "S")
		}
	case 4:
		if len(d.Params) > 0 {
			d.Params = d.Params[1:]
		}
	default:
		if len(d.Params) > 0 {
			param := &d.Params[k.Intn(len(d.Params))]
			param.Name = k.name()
			if !great && k.Intn(2) == 0 {
				param.Type = k.pick("int", "text", "bool", "P", "S")
			}
		}
	}
}

func (k *maker) spoilStmt(s *api.Stmt) {
	switch s.Kind {
	case api.SWhile, api.SEach:
		if k.Intn(2) == 0 {
			s.Label = k.pick("l", "k", "a")
			return
		}
	case api.SReturn:
		if len(s.Args) > 0 {
			s.Args = nil
		} else {
			s.Args = k.exprs("int")
		}
		return
	case api.SAfter:
		if k.Intn(2) == 0 {
			s.Args = append(s.Args, k.literal("int", 0))
			return
		}
	}
	switch {
	case s.Var != "" && k.Intn(2) == 0:
		s.Var = k.name()
	case s.Name != "" || s.Kind == api.SBreak || s.Kind == api.SContinue:
		s.Name = k.name()
	case len(s.Args) == 1 && len(s.Body)+len(s.Else) == 0 && s.Label == "":
		s.Kind = k.pickInt(api.SEmit, api.SDo, api.SReturn, api.SIf, api.SWhile)
	}
}

func (k *maker) pickInt(list ...int) int { return list[k.Intn(len(list))] }

func (k *maker) spoilExpr(e *api.Expr, others []*api.Expr) {
	switch k.Intn(5) {
	case 0:
		*e = spreadExprs([]api.Expr{*others[k.Intn(len(others))]}, keep)[0] // a copy: e may be within it
	case 1:
		*e = k.literal(k.pick("int", "text", "bool"), 0)
	case 2:
		*e = api.Expr{Kind: api.EVar, Name: k.name()}
	case 3:
		if e.Kind == api.ECall {
			*e = api.Expr{Kind: api.ECall, Name: e.Name, Args: append(slices.Clone(e.Args), k.literal("int", 0))[k.Intn(2):]}
		} else if e.Kind == api.EMake {
			e.Names[k.Intn(len(e.Names))] = k.name()
		} else if e.Name != "" {
			e.Name = k.name()
		}
	default:
		switch e.Kind {
		case api.EUnary:
			e.Op = k.pickInt(api.ONeg, api.ONot, api.OLen, api.OStr)
		case api.EBinary:
			e.Op = 1 + k.Intn(api.OOr)
		case api.EMake:
			e.Name = k.pick("P", "Q", "S")
		case api.EGet, api.EHas:
			e.Kind = k.pickInt(api.EGet, api.EHas, api.ECall)
		}
	}
}

func (k *maker) spoilBody(body *[]api.Stmt, another api.Stmt) {
	if len(*body) > 0 && k.Intn(2) == 0 {
		at := k.Intn(len(*body))
		*body = slices.Delete(slices.Clone(*body), at, at+1)
		return
	}
	*body = append(slices.Clone(*body), another)
}

// P8.1 to P8.3: trees by chance, as they are and spoilt, held against the chapter's words.
func TestTreesByChance(t *testing.T) {
	k := maker{Rand: rand.New(rand.NewSource(81))}
	counts := map[api.Errno]int{}
	for range 1500 {
		whole := placed(k.whole())
		wantTold(t, whole, 0, api.OK)
		p, _, _ := types.Check(whole)
		wantMeant(t, whole, p)
		for range 8 {
			x := spread(whole, keep)
			for range 1 + k.Intn(4) {
				k.spoil(&x)
			}
			x = placed(x)
			want := modelOf(x)
			wantTold(t, x, want.at, want.err)
			counts[want.err]++
			if want.err == api.OK {
				p, _, _ := types.Check(x)
				wantMeant(t, x, p)
			}
		}
	}
	for err := api.ErrTypeName; err <= api.ErrTypeTree; err++ {
		if counts[err] < 100 || counts[api.OK] < 2000 {
			t.Errorf("%v", counts)
		}
	}
}

// typeOf: what a type's name means.
func typeOf(p api.Program, name string) api.Type {
	for rec, record := range p.Records {
		if record.Name == name {
			return recordOf(rec)
		}
	}
	return map[string]api.Type{"": none, "int": intType, "text": textType, "bool": boolType}[name]
}

// wantMeant: that a program says what a tree declares, and is right.
func wantMeant(t *testing.T, x api.Tree, p api.Program) {
	t.Helper()
	var want api.Program
	for _, d := range x.Records {
		r := api.RecordType{Name: d.Name}
		for _, param := range d.Params {
			r.Fields, r.Types = append(r.Fields, param.Name), append(r.Types, typeOf(p, param.Type))
		}
		want.Records = append(want.Records, r)
	}
	for _, d := range x.Maps {
		want.Maps = append(want.Maps, api.MapType{Name: d.Name, Key: typeOf(p, d.Key), Value: typeOf(p, d.Value)})
	}
	sigs := func(list []api.Decl) (sigs []api.Sig) {
		for _, d := range list {
			s := api.Sig{Name: d.Name, Result: typeOf(p, d.Result)}
			for _, param := range d.Params {
				s.Params = append(s.Params, typeOf(p, param.Type))
			}
			sigs = append(sigs, s)
		}
		return sigs
	}
	want.Funcs, want.Events = sigs(x.Funcs), sigs(x.Events)
	if !equal(p, want) || !value.Right(p) {
		t.Errorf("%s: %+v, want %+v", shown(x), p, want)
	}
}
