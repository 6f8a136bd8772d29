package parse

import "windlass/api"

// Levels of the operators that stand between two expressions, the loosest first.
const (
	orLevel = iota + 1
	andLevel
	testLevel
	sumLevel
	productLevel
)

// operatorOf: and its level; zeros of what is no operator between two expressions.
func operatorOf(sign string) (int, int) {
	switch sign {
	case "or":
		return api.OOr, orLevel
	case "and":
		return api.OAnd, andLevel
	case "==":
		return api.OEq, testLevel
	case "!=":
		return api.ONe, testLevel
	case "<":
		return api.OLt, testLevel
	case "<=":
		return api.OLe, testLevel
	case ">":
		return api.OGt, testLevel
	case ">=":
		return api.OGe, testLevel
	case "+":
		return api.OAdd, sumLevel
	case "-":
		return api.OSub, sumLevel
	case "+%":
		return api.OWAdd, sumLevel
	case "-%":
		return api.OWSub, sumLevel
	case "&":
		return api.OCat, sumLevel
	case "*":
		return api.OMul, productLevel
	case "*%":
		return api.OWMul, productLevel
	case "/":
		return api.ODiv, productLevel
	case "%":
		return api.OMod, productLevel
	}
	return 0, 0
}

// operator takes an operator of a level; 0, if none stands there.
func (p *parser) operator(level int) int {
	t := p.next()
	if t.Kind != api.TokWord && t.Kind != api.TokSign {
		return 0 // a text may say the same as a sign
	}
	op, of := operatorOf(t.Text)
	if of != level {
		return 0
	}
	p.take()
	return op
}

// leftward: parts with operators of a level between, those ahead within those behind.
func (p *parser) leftward(level int, part func() api.Expr) api.Expr {
	e := part()
	for {
		op := p.operator(level)
		if op == 0 {
			return e
		}
		e = binary(op, e, part())
	}
}

func binary(op int, a, b api.Expr) api.Expr {
	return api.Expr{Kind: api.EBinary, Op: op, Args: []api.Expr{a, b}, At: a.At}
}

func (p *parser) expr() api.Expr { return p.leftward(orLevel, p.conjunction) }

func (p *parser) conjunction() api.Expr { return p.leftward(andLevel, p.negation) }

func (p *parser) negation() api.Expr {
	if p.is("not") {
		return p.unary(api.ONot, p.negation)
	}
	return p.test()
}

func (p *parser) test() api.Expr {
	e := p.sum()
	op := p.operator(testLevel)
	if op == 0 {
		return e
	}
	return binary(op, e, p.sum())
}

func (p *parser) sum() api.Expr { return p.leftward(sumLevel, p.product) }

func (p *parser) product() api.Expr { return p.leftward(productLevel, p.factor) }

// factor: a literal below 0 isn't a primary: no field is read of it.
func (p *parser) factor() api.Expr {
	if !p.is("-") {
		return p.post()
	}
	if p.tokens[1].Kind != api.TokInt {
		return p.unary(api.ONeg, p.factor)
	}
	at := p.take().At
	return api.Expr{Kind: api.EInt, Int: p.number("-"), At: at}
}

func (p *parser) unary(op int, arg func() api.Expr) api.Expr {
	at := p.enter().At
	e := api.Expr{Kind: api.EUnary, Op: op, Args: []api.Expr{arg()}, At: at}
	p.leave()
	return e
}

func (p *parser) post() api.Expr {
	e := p.primary()
	for p.maybe(".") {
		e = api.Expr{Kind: api.EField, Name: p.small(), Args: []api.Expr{e}, At: e.At}
	}
	return e
}
