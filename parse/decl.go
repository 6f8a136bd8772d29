package parse

import "windlass/api"

func (p *parser) source() api.Tree {
	var t api.Tree
	for p.next().Kind != api.TokEnd {
		switch {
		case p.is("record"):
			p.declare(&t.Records, p.record)
		case p.is("map"):
			p.declare(&t.Maps, p.table)
		case p.is("fn"):
			p.declare(&t.Funcs, p.function)
		case p.is("on"):
			p.declare(&t.Events, p.handler)
		default:
			panic(p.wrong())
		}
	}
	return t
}

// declare reads a declaration of a sort, behind those that there are.
func (p *parser) declare(list *[]api.Decl, rest func() api.Decl) {
	p.surplus = len(*list) == api.MaxDecls
	word := p.take()
	d := rest()
	d.At = word.At
	*list = append(*list, d)
}

func (p *parser) record() api.Decl {
	name := p.great()
	return api.Decl{Name: name, Params: rowBetween(p, "{", "}", p.field)}
}

func (p *parser) table() api.Decl {
	d := api.Decl{Name: p.small()}
	p.want(":")
	d.Key = p.oneOf("int", "text")
	p.want("->")
	d.Value = p.kind()
	p.want(";")
	return d
}

func (p *parser) function() api.Decl {
	d := api.Decl{Name: p.small()}
	d.Params = rowOrNone(p, "(", ")", p.param)
	if p.maybe("->") {
		d.Result = p.kind()
	}
	d.Body = p.block()
	return d
}

func (p *parser) handler() api.Decl {
	d := api.Decl{Name: p.small()}
	d.Params = rowOrNone(p, "(", ")", p.param)
	d.Body = p.block()
	return d
}

func (p *parser) field() api.Param {
	name := p.small()
	p.want(":")
	return api.Param{Name: name, Type: p.simpleKind()}
}

func (p *parser) param() api.Param {
	name := p.small()
	p.want(":")
	return api.Param{Name: name, Type: p.kind()}
}

// kind: a type.
func (p *parser) kind() string {
	if p.isGreat() {
		return p.great()
	}
	return p.simpleKind()
}

func (p *parser) simpleKind() string { return p.oneOf("int", "text", "bool") }
