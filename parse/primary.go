package parse

import "windlass/api"

func (p *parser) primary() api.Expr {
	if p.is("(") {
		return between(p, "(", ")", p.expr) // its place is that of what stands within
	}
	at := p.next().At
	e := p.anyPrimary()
	e.At = at
	return e
}

func (p *parser) anyPrimary() api.Expr {
	switch p.next().Kind {
	case api.TokInt:
		return api.Expr{Kind: api.EInt, Int: p.number("")}
	case api.TokText:
		return api.Expr{Kind: api.EText, Text: p.take().Text}
	case api.TokName:
		return p.namedExpr()
	}
	return p.wordExpr()
}

// namedExpr: of the expressions that begin with a name the token behind it tells which one it is.
func (p *parser) namedExpr() api.Expr {
	if p.isGreat() {
		return p.newRecord()
	}
	name := p.small()
	switch {
	case p.is("("):
		return api.Expr{Kind: api.ECall, Name: name, Args: p.args()}
	case p.is("["):
		return api.Expr{Kind: api.EGet, Name: name, Args: p.key()}
	}
	return api.Expr{Kind: api.EVar, Name: name}
}

func (p *parser) wordExpr() api.Expr {
	switch {
	case p.maybe("true"):
		return api.Expr{Kind: api.EBool, Int: 1}
	case p.maybe("false"):
		return api.Expr{Kind: api.EBool}
	case p.maybe("len"):
		return api.Expr{Kind: api.EUnary, Op: api.OLen, Args: p.inBrackets()}
	case p.maybe("str"):
		return api.Expr{Kind: api.EUnary, Op: api.OStr, Args: p.inBrackets()}
	case p.maybe("has"):
		name := p.small()
		return api.Expr{Kind: api.EHas, Name: name, Args: p.key()}
	case p.maybe("ask"):
		name := p.small()
		return api.Expr{Kind: api.EAsk, Name: name, Args: p.inBrackets()}
	}
	panic(p.wrong())
}

// part of a record that is made.
type part struct {
	name  string
	value api.Expr
}

func (p *parser) newRecord() api.Expr {
	e := api.Expr{Kind: api.EMake, Name: p.great()}
	for _, one := range rowBetween(p, "{", "}", p.part) {
		e.Names = append(e.Names, one.name)
		e.Args = append(e.Args, one.value)
	}
	return e
}

func (p *parser) part() part {
	name := p.small()
	p.want(":")
	return part{name, p.expr()}
}

func (p *parser) oneExpr() []api.Expr { return []api.Expr{p.expr()} }

func (p *parser) inBrackets() []api.Expr { return between(p, "(", ")", p.oneExpr) }

func (p *parser) key() []api.Expr { return between(p, "[", "]", p.oneExpr) }

func (p *parser) args() []api.Expr { return rowOrNone(p, "(", ")", p.expr) }
