package tree

import (
	"iter"
	"slices"
	"strings"

	"windlass/api"
)

// The sorts of declarations, by the words that they begin with.
const (
	aRecord   = "record"
	aMap      = "map"
	aFunction = "fn"
	aHandler  = "on"
)

// declaration: an api.Decl doesn't tell its sort.
type declaration struct {
	sort string
	*api.Decl
}

// parts hands on the whole and all that is within it: a *api.Tree, a declaration, *api.Stmt, *api.Expr, each ahead of what is within it.
// A part's lists are looked up when it has been handed on: it may be given other ones until then.
func parts(whole any) iter.Seq[any] {
	return func(yield func(any) bool) { handOn(whole, yield) }
}

// handOn tells whether more is wanted.
func handOn(part any, yield func(any) bool) bool {
	if !yield(part) {
		return false
	}
	switch p := part.(type) {
	case *api.Tree:
		return handOnDecls(aRecord, p.Records, yield) && handOnDecls(aMap, p.Maps, yield) && handOnDecls(aFunction, p.Funcs, yield) && handOnDecls(aHandler, p.Events, yield)
	case declaration:
		return handOnAll(p.Body, yield)
	case *api.Stmt:
		return handOnAll(p.Args, yield) && handOnAll(p.Body, yield) && handOnAll(p.Else, yield)
	case *api.Expr:
		return handOnAll(p.Args, yield)
	}
	return true
}

func handOnDecls(sort string, list []api.Decl, yield func(any) bool) bool {
	for i := range list {
		if !handOn(declaration{sort, &list[i]}, yield) {
			return false
		}
	}
	return true
}

func handOnAll[T api.Stmt | api.Expr](list []T, yield func(any) bool) bool {
	for i := range list {
		if !handOn(&list[i], yield) {
			return false
		}
	}
	return true
}

func hasSize(part any) bool {
	switch part.(type) {
	case *api.Stmt, *api.Expr:
		return true
	}
	return false
}

// makeBare gives a part lists and texts of its own, so that the parts within it may be changed in their turn.
func makeBare(part any) {
	switch p := part.(type) {
	case *api.Tree:
		p.Records, p.Maps, p.Funcs, p.Events = copied(p.Records), copied(p.Maps), copied(p.Funcs), copied(p.Events)
	case declaration:
		p.At = 0
		copyTexts(&p.Name, &p.Key, &p.Value, &p.Result)
		p.Params, p.Body = copied(p.Params), copied(p.Body)
		for i := range p.Params {
			copyTexts(&p.Params[i].Name, &p.Params[i].Type)
		}
	case *api.Stmt:
		p.At = 0
		copyTexts(&p.Name, &p.Label, &p.Var)
		p.Args, p.Body, p.Else = copied(p.Args), copied(p.Body), copied(p.Else)
	case *api.Expr:
		p.At = 0
		copyTexts(&p.Text, &p.Name)
		p.Names, p.Args = copied(p.Names), copied(p.Args)
		for i := range p.Names {
			copyTexts(&p.Names[i])
		}
	}
}

// copied: slices.Clone would keep where an empty list lies.
func copied[T any](list []T) []T { return append([]T(nil), list...) }

func copyTexts(texts ...*string) {
	for _, text := range texts {
		*text = strings.Clone(*text)
	}
}

// alike leaves aside At, and of the parts within asks only how many there are: they are handed on by themselves.
func alike(a, b any) bool {
	switch a := a.(type) {
	case *api.Tree:
		b, ok := b.(*api.Tree)
		return ok && alikeTrees(a, b)
	case declaration:
		b, ok := b.(declaration)
		return ok && alikeDecls(a.Decl, b.Decl)
	case *api.Stmt:
		b, ok := b.(*api.Stmt)
		return ok && alikeStmts(a, b)
	case *api.Expr:
		b, ok := b.(*api.Expr)
		return ok && alikeExprs(a, b)
	}
	return false
}

func alikeTrees(a, b *api.Tree) bool {
	return len(a.Records) == len(b.Records) && len(a.Maps) == len(b.Maps) && len(a.Funcs) == len(b.Funcs) && len(a.Events) == len(b.Events)
}

func alikeDecls(a, b *api.Decl) bool {
	return a.Name == b.Name && slices.Equal(a.Params, b.Params) && a.Key == b.Key && a.Value == b.Value && a.Result == b.Result && len(a.Body) == len(b.Body)
}

func alikeStmts(a, b *api.Stmt) bool {
	return a.Kind == b.Kind && a.Name == b.Name && a.Label == b.Label && a.Var == b.Var && len(a.Args) == len(b.Args) && len(a.Body) == len(b.Body) && len(a.Else) == len(b.Else)
}

func alikeExprs(a, b *api.Expr) bool {
	return a.Kind == b.Kind && a.Op == b.Op && a.Int == b.Int && a.Text == b.Text && a.Name == b.Name && slices.Equal(a.Names, b.Names) && len(a.Args) == len(b.Args)
}
