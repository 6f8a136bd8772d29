package tree

import (
	"strconv"
	"strings"

	"windlass/api"
	"windlass/lex"
)

// printer: how many signs and words are open is counted as they are written, so that Depth speaks of what Print tells.
type printer struct {
	text       strings.Builder
	open, most int
}

// printed: of what may not be nothing is written.
func printed(whole any) (*printer, api.Errno) {
	p := new(printer)
	if !mayBe(whole) {
		return p, api.ErrTreeForm
	}
	p.whole(whole)
	return p, api.OK
}

func (p *printer) whole(whole any) {
	switch w := whole.(type) {
	case *api.Tree:
		p.decls(aRecord, w.Records)
		p.decls(aMap, w.Maps)
		p.decls(aFunction, w.Funcs)
		p.decls(aHandler, w.Events)
	case *api.Expr:
		p.expr(w)
	}
}

func (p *printer) write(texts ...string) {
	for _, text := range texts {
		p.text.WriteString(text)
	}
}

func (p *printer) enter(texts ...string) {
	p.write(texts...)
	p.open++
	p.most = max(p.most, p.open)
}

func (p *printer) leave(text string) {
	p.write(text)
	p.open--
}

func (p *printer) decls(sort string, list []api.Decl) {
	for i := range list {
		p.decl(declaration{sort, &list[i]})
		p.write("\n")
	}
}

func (p *printer) decl(d declaration) {
	p.write(d.sort, " ", d.Name)
	switch d.sort {
	case aRecord:
		p.enter(" { ")
		p.params(d.Params)
		p.leave(" }")
	case aMap:
		p.write(": ", d.Key, " -> ", d.Value, ";")
	case aFunction, aHandler:
		p.enter("(")
		p.params(d.Params)
		p.leave(")")
		if d.Result != "" {
			p.write(" -> ", d.Result)
		}
		p.block(d.Body)
	}
}

func (p *printer) params(list []api.Param) {
	for i, param := range list {
		p.comma(i)
		p.write(param.Name, ": ", param.Type)
	}
}

// comma: ahead of element i of a row.
func (p *printer) comma(i int) {
	if i > 0 {
		p.write(", ")
	}
}

func (p *printer) block(body []api.Stmt) {
	p.enter(" {")
	for i := range body {
		p.write(" ")
		p.stmt(&body[i])
	}
	p.leave(" }")
}

func (p *printer) stmt(s *api.Stmt) {
	switch s.Kind {
	case api.SIf:
		p.write("if ")
		p.expr(&s.Args[0])
		p.block(s.Body)
		if len(s.Else) > 0 {
			p.write(" else")
			p.block(s.Else)
		}
	case api.SWhile:
		p.label(s.Label)
		p.write("while ")
		p.expr(&s.Args[0])
		p.block(s.Body)
	case api.SEach:
		p.label(s.Label)
		p.write("each ", s.Var, " in ", s.Name)
		p.block(s.Body)
	default:
		p.simple(s)
		p.write(";")
	}
}

func (p *printer) label(label string) {
	if label != "" {
		p.write(label, ": ")
	}
}

// simple: of a statement without a block, all but its end.
func (p *printer) simple(s *api.Stmt) {
	switch s.Kind {
	case api.SLet:
		p.write("let ", s.Name, " = ")
		p.expr(&s.Args[0])
	case api.SSet:
		p.write(s.Name, " = ")
		p.expr(&s.Args[0])
	case api.SPut:
		p.entry(s.Name, &s.Args[0])
		p.write(" = ")
		p.expr(&s.Args[1])
	case api.SDel:
		p.write("del ")
		p.entry(s.Name, &s.Args[0])
	case api.SBreak:
		p.jump("break", s.Name)
	case api.SContinue:
		p.jump("continue", s.Name)
	case api.SReturn:
		p.write("return")
		if len(s.Args) > 0 {
			p.write(" ")
			p.expr(&s.Args[0])
		}
	case api.SEmit:
		p.write("emit ")
		p.expr(&s.Args[0])
	case api.SAfter:
		p.write("after ")
		p.expr(&s.Args[0])
		p.write(" ")
		p.call(s.Name, s.Args[1:])
	case api.SDo:
		p.write("do ")
		p.expr(&s.Args[0])
	}
}

func (p *printer) jump(word, loop string) {
	p.write(word)
	if loop != "" {
		p.write(" ", loop)
	}
}

func (p *printer) expr(e *api.Expr) {
	switch e.Kind {
	case api.EInt:
		p.write(strconv.FormatInt(e.Int, 10))
	case api.EText:
		p.write(lex.Quote(e.Text))
	case api.EBool:
		p.write(strconv.FormatBool(e.Int == 1))
	case api.EVar:
		p.write(e.Name)
	case api.EUnary:
		p.unary(e)
	case api.EBinary:
		p.argument(e, 0)
		p.write(" ", sign(e.Op), " ")
		p.argument(e, 1)
	case api.EField:
		p.argument(e, 0)
		p.write(".", e.Name)
	case api.EMake:
		p.enter(e.Name, "{")
		for i, name := range e.Names {
			p.comma(i)
			p.write(name, ": ")
			p.expr(&e.Args[i])
		}
		p.leave("}")
	case api.EGet:
		p.entry(e.Name, &e.Args[0])
	case api.EHas:
		p.write("has ")
		p.entry(e.Name, &e.Args[0])
	case api.ECall:
		p.call(e.Name, e.Args)
	case api.EAsk:
		p.write("ask ")
		p.call(e.Name, e.Args)
	}
}

func (p *printer) unary(e *api.Expr) {
	switch e.Op {
	case api.ONeg:
		p.enter("- ")
		p.argument(e, 0)
		p.leave("")
	case api.ONot:
		p.enter("not ")
		p.argument(e, 0)
		p.leave("")
	case api.OLen:
		p.call("len", e.Args)
	case api.OStr:
		p.call("str", e.Args)
	}
}

func sign(op int) string {
	signs := [...]string{"+", "-", "*", "+%", "-%", "*%", "/", "%", "&", "==", "!=", "<", "<=", ">", ">=", "and", "or"}
	return signs[op-api.OAdd]
}

func (p *printer) entry(name string, key *api.Expr) {
	p.enter(name, "[")
	p.expr(key)
	p.leave("]")
}

func (p *printer) call(name string, args []api.Expr) {
	p.enter(name, "(")
	for i := range args {
		p.comma(i)
		p.expr(&args[i])
	}
	p.leave(")")
}

func (p *printer) argument(e *api.Expr, i int) {
	arg := &e.Args[i]
	if !inBrackets(e, arg) {
		p.expr(arg)
		return
	}
	p.enter("(")
	p.expr(arg)
	p.leave(")")
}

// inBrackets: whether an argument would be read otherwise, if it stood in e without them.
func inBrackets(e, arg *api.Expr) bool {
	switch arg.Kind {
	case api.EBinary:
		return true
	case api.EUnary:
		return arg.Op == api.ONeg || arg.Op == api.ONot
	case api.EInt:
		return arg.Int < 0 || e.Op == api.ONeg
	case api.EHas, api.EAsk:
		return e.Kind == api.EField
	}
	return false
}
