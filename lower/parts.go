package lower

import (
	"iter"

	"windlass/api"
)

// parts hands on all that is within statements, and these: *api.Stmt, *api.Expr, each ahead of what is within it.
func parts(list []api.Stmt) iter.Seq[any] {
	return func(yield func(any) bool) { handOnStmts(list, yield) }
}

// handOnStmts tells whether more is wanted.
func handOnStmts(list []api.Stmt, yield func(any) bool) bool {
	for i := range list {
		s := &list[i]
		if !yield(s) || !handOnExprs(s.Args, yield) || !handOnStmts(s.Body, yield) || !handOnStmts(s.Else, yield) {
			return false
		}
	}
	return true
}

func handOnExprs(list []api.Expr, yield func(any) bool) bool {
	for i := range list {
		if !yield(&list[i]) || !handOnExprs(list[i].Args, yield) {
			return false
		}
	}
	return true
}

// sets: whether a variable is set within statements.
func sets(list []api.Stmt, name string) bool {
	for part := range parts(list) {
		if s, ok := part.(*api.Stmt); ok && s.Kind == api.SSet && s.Name == name {
			return true
		}
	}
	return false
}

func hasExpr(list []api.Stmt) bool {
	for part := range parts(list) {
		if _, ok := part.(*api.Expr); ok {
			return true
		}
	}
	return false
}
