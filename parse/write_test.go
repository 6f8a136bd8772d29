package parse_test

import (
	"math/rand"
	"strconv"
	"strings"
	"testing"

	"windlass/api"
	"windlass/lex"
	"windlass/parse"
)

// writer writes trees as sources may have them, not as Print has them: with brackets only where they must be, and with others by chance, with blanks, lines and notes between, or nothing; it answers what it wrote with the places where it wrote it.
type writer struct {
	chooser
	text strings.Builder
	last string // the last token
	open int
	deep int // where more than MaxDepth were open first; -1: nowhere
}

func newWriter(c chooser) *writer { return &writer{chooser: c, deep: -1} }

// apart: whether two tokens are told as two, if nothing stands between.
func apart(a, b string) bool {
	tokens, _, err := lex.Tokens(a + b)
	return err == api.OK && len(tokens) == 3 && tokens[1].At == len(a)
}

// token writes one, and tells where it begins.
func (w *writer) token(s string) int {
	gap := w.pick("", "", "", "", " ", " ", "\n", "\t", "\r\n", "  ", "# on (\n", " #\n ")
	if gap == "" && w.last != "" && !apart(w.last, s) {
		gap = " "
	}
	w.text.WriteString(gap)
	at := w.text.Len()
	w.text.WriteString(s)
	w.last = s
	return at
}

// tokens writes some, and tells where the first begins.
func (w *writer) tokens(list ...string) int {
	at := w.token(list[0])
	for _, s := range list[1:] {
		w.token(s)
	}
	return at
}

// enter writes a token that opens something.
func (w *writer) enter(s string) int {
	at := w.token(s)
	w.open++
	if w.open > api.MaxDepth && w.deep < 0 {
		w.deep = at
	}
	return at
}

func (w *writer) leave(s string) {
	if s != "" {
		w.token(s)
	}
	w.open--
}

// How tight an expression is: it needs no brackets where one as tight, or one less tight, may stand.
const (
	anOr = iota + 1
	anAnd
	aNot
	aTest
	aSum
	aProduct
	aFactor
	aPost
	aPrimary
)

func tightness(e api.Expr) int {
	switch {
	case e.Kind == api.EBinary && e.Op == api.OOr:
		return anOr
	case e.Kind == api.EBinary && e.Op == api.OAnd:
		return anAnd
	case e.Op == api.ONot:
		return aNot
	case e.Kind == api.EBinary && e.Op >= api.OEq:
		return aTest
	case e.Op == api.OAdd, e.Op == api.OSub, e.Op == api.OWAdd, e.Op == api.OWSub, e.Op == api.OCat:
		return aSum
	case e.Kind == api.EBinary:
		return aProduct
	case e.Op == api.ONeg, e.Kind == api.EInt && e.Int < 0:
		return aFactor
	case e.Kind == api.EField:
		return aPost
	}
	return aPrimary
}

// beginsWithInt: whether an int token is the first of what would be written without brackets.
func beginsWithInt(e api.Expr) bool {
	return e.Kind == api.EInt && e.Int >= 0 || e.Kind == api.EField && beginsWithInt(e.Args[0])
}

func (w *writer) expr(e api.Expr, least int) api.Expr {
	if tightness(e) >= least && w.Intn(10) > 0 {
		return w.bareExpr(e)
	}
	w.enter("(")
	e = w.expr(e, 0)
	w.leave(")")
	return e
}

// sign: of an operator between two expressions.
func sign(op int) string {
	for s, o := range operators() {
		if o == op {
			return s
		}
	}
	return ""
}

func (w *writer) bareExpr(e api.Expr) api.Expr {
	switch e.Kind {
	case api.EInt:
		e.At = w.number(e.Int)
	case api.EText:
		e.At = w.token(lex.Quote(e.Text))
	case api.EBool:
		e.At = w.token(strconv.FormatBool(e.Int == 1))
	case api.EVar:
		e.At = w.token(e.Name)
	case api.EUnary:
		return w.unary(e)
	case api.EBinary:
		left, right := tightness(e), tightness(e)+1
		if left == aTest {
			left = right
		}
		a := w.expr(e.Args[0], left)
		w.token(sign(e.Op))
		e.Args = []api.Expr{a, w.expr(e.Args[1], right)}
		e.At = a.At
	case api.EField:
		a := w.expr(e.Args[0], aPost)
		w.tokens(".", e.Name)
		e.Args = []api.Expr{a}
		e.At = a.At
	case api.EMake:
		e.At = w.token(e.Name)
		e.Args = w.parts(e.Names, e.Args)
	case api.EGet:
		e.At = w.token(e.Name)
		e.Args = w.row("[", e.Args, "]")
	case api.EHas:
		e.At = w.tokens("has", e.Name)
		e.Args = w.row("[", e.Args, "]")
	case api.ECall:
		e.At = w.token(e.Name)
		e.Args = w.row("(", e.Args, ")")
	case api.EAsk:
		e.At = w.tokens("ask", e.Name)
		e.Args = w.row("(", e.Args, ")")
	}
	return e
}

func (w *writer) number(n int64) int {
	digits, below := strings.CutPrefix(strconv.FormatInt(n, 10), "-")
	digits = w.pick("", "", "0", "000") + digits
	if below {
		return w.tokens("-", digits)
	}
	return w.token(digits)
}

func (w *writer) unary(e api.Expr) api.Expr {
	arg := e.Args[0]
	switch e.Op {
	case api.ONot, api.ONeg:
		least := aNot
		word := "not"
		if e.Op == api.ONeg {
			least, word = aFactor, "-"
			if beginsWithInt(arg) {
				least = aPrimary + 1
			}
		}
		e.At = w.enter(word)
		e.Args = []api.Expr{w.expr(arg, least)}
		w.leave("")
	default:
		e.At = w.token(map[int]string{api.OLen: "len", api.OStr: "str"}[e.Op])
		e.Args = w.row("(", e.Args, ")")
	}
	return e
}

func (w *writer) comma(i int) {
	if i > 0 {
		w.token(",")
	}
}

func (w *writer) row(from string, list []api.Expr, to string) []api.Expr {
	var made []api.Expr
	w.enter(from)
	for i, e := range list {
		w.comma(i)
		made = append(made, w.expr(e, 0))
	}
	w.leave(to)
	return made
}

func (w *writer) parts(names []string, list []api.Expr) []api.Expr {
	var made []api.Expr
	w.enter("{")
	for i, e := range list {
		w.comma(i)
		w.tokens(names[i], ":")
		made = append(made, w.expr(e, 0))
	}
	w.leave("}")
	return made
}

func (w *writer) block(list []api.Stmt) []api.Stmt {
	var made []api.Stmt
	w.enter("{")
	for _, s := range list {
		made = append(made, w.stmt(s))
	}
	w.leave("}")
	return made
}

func (w *writer) stmt(s api.Stmt) api.Stmt {
	switch s.Kind {
	case api.SIf:
		s.At = w.token("if")
		s.Args = []api.Expr{w.expr(s.Args[0], 0)}
		s.Body = w.block(s.Body)
		s.Else = w.other(s.Else)
	case api.SWhile, api.SEach:
		return w.loop(s)
	default:
		s = w.simple(s)
		w.token(";")
	}
	return s
}

func (w *writer) other(list []api.Stmt) []api.Stmt {
	if len(list) == 0 && w.Intn(2) == 0 {
		return nil
	}
	w.token("else")
	if len(list) == 1 && list[0].Kind == api.SIf && w.Intn(4) > 0 {
		return []api.Stmt{w.stmt(list[0])}
	}
	return w.block(list)
}

func (w *writer) loop(s api.Stmt) api.Stmt {
	if s.Label != "" {
		s.At = w.tokens(s.Label, ":")
	}
	at := 0
	if s.Kind == api.SWhile {
		at = w.token("while")
		s.Args = []api.Expr{w.expr(s.Args[0], 0)}
	} else {
		at = w.tokens("each", s.Var, "in", s.Name)
	}
	if s.Label == "" {
		s.At = at
	}
	s.Body = w.block(s.Body)
	return s
}

// args: each of them, by itself.
func (w *writer) args(list []api.Expr) []api.Expr {
	var made []api.Expr
	for _, e := range list {
		made = append(made, w.expr(e, 0))
	}
	return made
}

func (w *writer) simple(s api.Stmt) api.Stmt {
	switch s.Kind {
	case api.SLet:
		s.At = w.tokens("let", s.Name, "=")
		s.Args = w.args(s.Args)
	case api.SSet:
		s.At = w.tokens(s.Name, "=")
		s.Args = w.args(s.Args)
	case api.SPut:
		s.At = w.token(s.Name)
		key := w.row("[", s.Args[:1], "]")
		w.token("=")
		s.Args = append(key, w.args(s.Args[1:])...)
	case api.SDel:
		s.At = w.tokens("del", s.Name)
		s.Args = w.row("[", s.Args, "]")
	case api.SAfter:
		s.At = w.token("after")
		delay := w.args(s.Args[:1])
		w.token(s.Name)
		s.Args = append(delay, w.row("(", s.Args[1:], ")")...)
	default:
		word := map[int]string{api.SBreak: "break", api.SContinue: "continue", api.SReturn: "return", api.SEmit: "emit", api.SDo: "do"}[s.Kind]
		s.At = w.token(word)
		if s.Name != "" {
			w.token(s.Name)
		}
		s.Args = w.args(s.Args)
	}
	return s
}

func (w *writer) params(from string, list []api.Param, to string) {
	w.enter(from)
	for i, param := range list {
		w.comma(i)
		w.tokens(param.Name, ":", param.Type)
	}
	w.leave(to)
}

func (w *writer) decl(word string, d api.Decl) api.Decl {
	d.At = w.tokens(word, d.Name)
	switch word {
	case "record":
		w.params("{", d.Params, "}")
	case "map":
		w.tokens(":", d.Key, "->", d.Value, ";")
	default:
		w.params("(", d.Params, ")")
		if d.Result != "" {
			w.tokens("->", d.Result)
		}
		d.Body = w.block(d.Body)
	}
	return d
}

// tree writes the declarations of all sorts in an order by chance, those of one sort in theirs.
func (w *writer) tree(t api.Tree) api.Tree {
	var made api.Tree
	words := []string{"record", "map", "fn", "on"}
	left := [][]api.Decl{t.Records, t.Maps, t.Funcs, t.Events}
	lists := []*[]api.Decl{&made.Records, &made.Maps, &made.Funcs, &made.Events}
	for len(left[0])+len(left[1])+len(left[2])+len(left[3]) > 0 {
		sort := w.Intn(4)
		if len(left[sort]) > 0 {
			*lists[sort] = append(*lists[sort], w.decl(words[sort], left[sort][0]))
			left[sort] = left[sort][1:]
		}
	}
	w.text.WriteString(w.pick("", " ", "\n", "#", "# }"))
	return made
}

// wantWritten: that what was written is read, with its places; or is told to be too long, or too deep.
func wantWritten(t *testing.T, w *writer, want api.Tree) api.Errno {
	t.Helper()
	source := w.text.String()
	got, at, err := parse.Parse(source)
	switch {
	case len(source) > api.MaxSource:
		wantFault(t, source, 0, api.ErrLexLong)
	case w.deep >= 0:
		wantFault(t, source, w.deep, api.ErrParseDeep)
	case err != api.OK || at != 0 || !equal(got, want):
		t.Errorf("%s: %+v, %d at %d; want %+v", source, got, err, at, want)
	}
	return err
}

// P7.1, P7.3: trees of all sorts, however they are written.
func TestWrittenTrees(t *testing.T) {
	c := chooser{rand.New(rand.NewSource(72))}
	read := 0
	for range 3000 {
		w := newWriter(c)
		want := w.tree(c.tree())
		if wantWritten(t, w, want) == api.OK {
			read++
		}
	}
	if read < 2000 {
		t.Errorf("only %d were read", read)
	}
}

// P7.1, P7.3: expressions of all sorts within one another.
func TestWrittenExprs(t *testing.T) {
	c := chooser{rand.New(rand.NewSource(73))}
	for range 6000 {
		w := newWriter(c)
		want := w.tree(handler(stmt(api.SDo, "", c.expr(1+c.Intn(5)))))
		wantWritten(t, w, want)
	}
}

// P7.2: all that opens something, as deep as may be and deeper, mixed.
func TestWrittenDepth(t *testing.T) {
	c := chooser{rand.New(rand.NewSource(74))}
	counts := map[api.Errno]int{}
	for range 6000 {
		w := newWriter(c)
		body := []api.Stmt{stmt(api.SEmit, "", c.chain(c.Intn(70)))}
		for range c.Intn(30) {
			body = []api.Stmt{loop("", c.expr(0), body...)}
		}
		want := w.tree(handler(body...))
		counts[wantWritten(t, w, want)]++
	}
	if counts[api.OK] < 1000 || counts[api.ErrParseDeep] < 1000 {
		t.Errorf("%v", counts)
	}
}
