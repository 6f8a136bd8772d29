package parse

import (
	"strconv"

	"windlass/api"
)

// parser: a token is looked at as long as it may still be ErrParse's, and then taken, which asks for all other errors.
type parser struct {
	tokens  []api.Token // those that aren't taken; the end never is
	open    int         // how many of ( [ { not - are
	surplus bool        // whether the next token begins what is one too many
}

func (p *parser) next() api.Token { return p.tokens[0] }

// wrong: of a token that can't stand where it does.
func (p *parser) wrong() fault { return fault{p.next().At, api.ErrParse} }

// is: of words and signs; a text may say the same.
func (p *parser) is(s string) bool {
	t := p.next()
	return (t.Kind == api.TokWord || t.Kind == api.TokSign) && t.Text == s
}

func (p *parser) isGreat() bool {
	t := p.next()
	return t.Kind == api.TokName && 'A' <= t.Text[0] && t.Text[0] <= 'Z'
}

func (p *parser) isSmall() bool { return p.next().Kind == api.TokName && !p.isGreat() }

// take: of a token that may stand where it does.
func (p *parser) take() api.Token {
	t := p.next()
	switch {
	case isLong(t):
		panic(fault{t.At, api.ErrParseName})
	case p.surplus:
		panic(fault{t.At, api.ErrParseMany})
	}
	p.tokens = p.tokens[1:]
	return t
}

func isLong(t api.Token) bool {
	return t.Kind == api.TokName && len(t.Text) > api.MaxName || t.Kind == api.TokText && len(t.Text) > api.MaxText
}

// enter takes a token by which something is open from there on, up to leave.
func (p *parser) enter() api.Token {
	t := p.take()
	if p.open == api.MaxDepth {
		panic(fault{t.At, api.ErrParseDeep})
	}
	p.open++
	return t
}

func (p *parser) leave() { p.open-- }

// number takes an int; it is asked ahead of take whether it is too great, for ErrParseInt goes ahead of ErrParseMany.
func (p *parser) number(sign string) int64 {
	n, err := strconv.ParseInt(sign+p.next().Text, 10, 64)
	if err != nil {
		panic(fault{p.next().At, api.ErrParseInt})
	}
	p.take()
	return n
}

// maybe takes a word or a sign, if it stands there.
func (p *parser) maybe(s string) bool {
	if !p.is(s) {
		return false
	}
	p.take()
	return true
}

func (p *parser) want(s string) {
	if !p.maybe(s) {
		panic(p.wrong())
	}
}

func (p *parser) oneOf(words ...string) string {
	for _, word := range words {
		if p.is(word) {
			return p.take().Text
		}
	}
	panic(p.wrong())
}

func (p *parser) small() string {
	if !p.isSmall() {
		panic(p.wrong())
	}
	return p.take().Text
}

func (p *parser) great() string {
	if !p.isGreat() {
		panic(p.wrong())
	}
	return p.take().Text
}
