package tree

import (
	"windlass/api"
	"windlass/lex"
)

// mayBe: each part is looked at by itself, ahead of what is within it.
func mayBe(whole any) bool {
	for part := range parts(whole) {
		if !isRight(part) {
			return false
		}
	}
	return true
}

func isRight(part any) bool {
	switch p := part.(type) {
	case *api.Tree:
		return isRightTree(p)
	case declaration:
		return isRightDecl(p)
	case *api.Stmt:
		return isRightStmt(p)
	case *api.Expr:
		return isRightExpr(p)
	}
	return false
}

func isRightTree(t *api.Tree) bool {
	return max(len(t.Records), len(t.Maps), len(t.Funcs), len(t.Events)) <= api.MaxDecls
}

func isRightDecl(d declaration) bool {
	meant := api.Decl{Name: d.Name} // what its sort has a meaning for; all else must be zero
	right := false
	switch d.sort {
	case aRecord:
		meant.Params = d.Params
		right = isGreat(d.Name) && len(d.Params) >= 1 && areRightParams(d.Params, isSimple)
	case aMap:
		meant.Key, meant.Value = d.Key, d.Value
		right = isSmall(d.Name) && isKey(d.Key) && isType(d.Value)
	case aFunction:
		meant.Params, meant.Result, meant.Body = d.Params, d.Result, d.Body
		right = isSmall(d.Name) && areRightParams(d.Params, isType) && (d.Result == "" || isType(d.Result))
	case aHandler:
		meant.Params, meant.Body = d.Params, d.Body
		right = isSmall(d.Name) && areRightParams(d.Params, isType)
	}
	return right && alikeDecls(d.Decl, &meant)
}

func areRightParams(params []api.Param, mayHave func(string) bool) bool {
	if len(params) > api.MaxItems {
		return false
	}
	for _, param := range params {
		if !isSmall(param.Name) || !mayHave(param.Type) {
			return false
		}
	}
	return true
}

func isRightStmt(s *api.Stmt) bool {
	meant := api.Stmt{Kind: s.Kind, Args: s.Args} // what its kind has a meaning for; all else must be zero
	right := false
	switch count := len(s.Args); s.Kind {
	case api.SLet, api.SSet, api.SDel:
		meant.Name = s.Name
		right = isSmall(s.Name) && count == 1
	case api.SPut:
		meant.Name = s.Name
		right = isSmall(s.Name) && count == 2
	case api.SIf:
		meant.Body, meant.Else = s.Body, s.Else
		right = count == 1
	case api.SWhile:
		meant.Label, meant.Body = s.Label, s.Body
		right = isLabel(s.Label) && count == 1
	case api.SEach:
		meant.Label, meant.Var, meant.Name, meant.Body = s.Label, s.Var, s.Name, s.Body
		right = isLabel(s.Label) && isSmall(s.Var) && isSmall(s.Name) && count == 0
	case api.SBreak, api.SContinue:
		meant.Name = s.Name
		right = isLabel(s.Name) && count == 0
	case api.SReturn:
		right = count <= 1
	case api.SEmit, api.SDo:
		right = count == 1
	case api.SAfter:
		meant.Name = s.Name
		right = isSmall(s.Name) && 1 <= count && count <= api.MaxItems+1
	}
	return right && alikeStmts(s, &meant)
}

func isRightExpr(e *api.Expr) bool {
	meant := api.Expr{Kind: e.Kind, Args: e.Args} // what its kind has a meaning for; all else must be zero
	right := false
	switch count := len(e.Args); e.Kind {
	case api.EInt:
		meant.Int = e.Int
		right = count == 0
	case api.EText:
		meant.Text = e.Text
		right = len(e.Text) <= api.MaxText && count == 0
	case api.EBool:
		meant.Int = e.Int
		right = (e.Int == 0 || e.Int == 1) && count == 0
	case api.EVar:
		meant.Name = e.Name
		right = isSmall(e.Name) && count == 0
	case api.EUnary:
		meant.Op = e.Op
		right = api.ONeg <= e.Op && e.Op <= api.OStr && count == 1
	case api.EBinary:
		meant.Op = e.Op
		right = api.OAdd <= e.Op && e.Op <= api.OOr && count == 2
	case api.EMake:
		meant.Name, meant.Names = e.Name, e.Names
		right = isGreat(e.Name) && areFields(e.Names) && count == len(e.Names)
	case api.ECall:
		meant.Name = e.Name
		right = isSmall(e.Name) && count <= api.MaxItems
	case api.EField, api.EGet, api.EHas, api.EAsk:
		meant.Name = e.Name
		right = isSmall(e.Name) && count == 1
	}
	return right && alikeExprs(e, &meant)
}

func areFields(names []string) bool {
	if len(names) < 1 || len(names) > api.MaxItems {
		return false
	}
	for _, name := range names {
		if !isSmall(name) {
			return false
		}
	}
	return true
}

func isLabel(s string) bool { return s == "" || isSmall(s) }

func isSmall(s string) bool { return lex.Name(s) && !isGreat(s) }

func isGreat(s string) bool { return lex.Name(s) && 'A' <= s[0] && s[0] <= 'Z' }

func isKey(s string) bool { return s == "int" || s == "text" }

// isSimple: whether a field may have this type.
func isSimple(s string) bool { return isKey(s) || s == "bool" }

func isType(s string) bool { return isSimple(s) || isGreat(s) }
