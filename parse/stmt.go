package parse

import "windlass/api"

func (p *parser) block() []api.Stmt {
	return between(p, "{", "}", func() []api.Stmt {
		var list []api.Stmt
		for !p.is("}") {
			list = append(list, p.stmt())
		}
		return list
	})
}

func (p *parser) stmt() api.Stmt {
	at := p.next().At
	s := p.anyStmt()
	s.At = at
	return s
}

func (p *parser) anyStmt() api.Stmt {
	switch {
	case p.is("if"):
		return p.choice()
	case p.is("while"), p.is("each"):
		return p.loop()
	case p.isSmall():
		return p.named()
	}
	s := p.simple()
	p.want(";")
	return s
}

func (p *parser) choice() api.Stmt {
	p.want("if")
	s := api.Stmt{Kind: api.SIf, Args: p.oneExpr()}
	s.Body = p.block()
	if p.maybe("else") {
		s.Else = p.other()
	}
	return s
}

// other: what stands behind else.
func (p *parser) other() []api.Stmt {
	if p.is("if") {
		return []api.Stmt{p.stmt()}
	}
	return p.block()
}

func (p *parser) loop() api.Stmt {
	if p.maybe("while") {
		s := api.Stmt{Kind: api.SWhile, Args: p.oneExpr()}
		s.Body = p.block()
		return s
	}
	p.want("each")
	s := api.Stmt{Kind: api.SEach, Var: p.small()}
	p.want("in")
	s.Name = p.small()
	s.Body = p.block()
	return s
}

// named: of the statements that begin with a name the token behind it tells which one it is.
func (p *parser) named() api.Stmt {
	name := p.small()
	if p.maybe(":") {
		s := p.loop()
		s.Label = name
		return s
	}
	s := api.Stmt{Kind: api.SSet, Name: name}
	if p.is("[") {
		s = api.Stmt{Kind: api.SPut, Name: name, Args: p.key()}
	}
	p.want("=")
	s.Args = append(s.Args, p.expr())
	p.want(";")
	return s
}

// simple: of a statement that begins with a word and has no block, all but its end.
func (p *parser) simple() api.Stmt {
	switch {
	case p.maybe("let"):
		s := api.Stmt{Kind: api.SLet, Name: p.small()}
		p.want("=")
		s.Args = p.oneExpr()
		return s
	case p.maybe("del"):
		s := api.Stmt{Kind: api.SDel, Name: p.small()}
		s.Args = p.key()
		return s
	case p.maybe("break"):
		return api.Stmt{Kind: api.SBreak, Name: p.target()}
	case p.maybe("continue"):
		return api.Stmt{Kind: api.SContinue, Name: p.target()}
	case p.maybe("return"):
		return api.Stmt{Kind: api.SReturn, Args: p.result()}
	case p.maybe("emit"):
		return api.Stmt{Kind: api.SEmit, Args: p.oneExpr()}
	case p.maybe("after"):
		return p.after()
	case p.maybe("do"):
		return api.Stmt{Kind: api.SDo, Args: p.oneExpr()}
	}
	panic(p.wrong())
}

// target: the loop that is left or gone on with, if one is named.
func (p *parser) target() string {
	if p.is(";") {
		return ""
	}
	return p.small()
}

func (p *parser) result() []api.Expr {
	if p.is(";") {
		return nil
	}
	return p.oneExpr()
}

// after: the delay is no element of the row, so that the row may be as long as any other.
func (p *parser) after() api.Stmt {
	s := api.Stmt{Kind: api.SAfter, Args: p.oneExpr()}
	s.Name = p.small()
	s.Args = append(s.Args, p.args()...)
	return s
}
