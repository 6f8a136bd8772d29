package lex

import (
	"slices"
	"strings"

	"windlass/api"
)

// first: the kind of the token that s begins with, and how many bytes it has; r is its first rune.
func first(s string, r rune) (int, int, api.Errno) {
	switch {
	case isLetter(r):
		size := run(s, isPartOfName)
		if slices.Contains(Words(), s[:size]) {
			return api.TokWord, size, api.OK
		}
		return api.TokName, size, api.OK
	case isDigit(r):
		return api.TokInt, run(s, isDigit), api.OK
	case r == '"':
		size, ends := textSize(s)
		if !ends {
			return 0, 0, api.ErrLexOpen
		}
		return api.TokText, size, api.OK
	}
	size := signSize(s)
	if size == 0 {
		return 0, 0, api.ErrLexByte
	}
	return api.TokSign, size, api.OK
}

// token: its text is a copy, so that a token doesn't keep the source that it came from.
func token(kind int, spelt string, at int) api.Token {
	text := spelt
	switch kind {
	case api.TokInt:
		text = strings.TrimLeft(spelt[:len(spelt)-1], "0") + spelt[len(spelt)-1:]
	case api.TokText:
		text = strings.ReplaceAll(spelt[1:len(spelt)-1], `""`, `"`)
	}
	return api.Token{Kind: kind, Text: strings.Clone(text), At: at}
}

// run: how many bytes of s stand ahead of its first rune that isn't part.
func run(s string, part func(rune) bool) int {
	for at, r := range s {
		if !part(r) {
			return at
		}
	}
	return len(s)
}

func noteSize(s string) int {
	return run(s, func(r rune) bool { return r != '\n' })
}

// textSize: how many bytes the text has that s begins with, its quotes too, and whether it ends.
func textSize(s string) (int, bool) {
	ends := false // by the quote right ahead, if no other one follows it
	for at, r := range s[1:] {
		if r == '"' {
			ends = !ends
		} else if ends {
			return 1 + at, true
		}
	}
	return len(s), ends
}

// signSize: 0 where s begins with no sign. Those of two bytes come first: a token is as long as may be.
func signSize(s string) int {
	for _, sign := range []string{"==", "!=", "<=", ">=", "+%", "-%", "*%", "->"} {
		if strings.HasPrefix(s, sign) {
			return len(sign)
		}
	}
	if strings.IndexByte("{}()[],;:.=<>+-*/%&", s[0]) >= 0 {
		return 1
	}
	return 0
}

func isBlank(r rune) bool { return r == ' ' || r == '\t' || r == '\n' || r == '\r' }

// isLetter: whether a name may begin with it.
func isLetter(r rune) bool { return 'a' <= r && r <= 'z' || 'A' <= r && r <= 'Z' || r == '_' }

func isDigit(r rune) bool { return '0' <= r && r <= '9' }

func isPartOfName(r rune) bool { return isLetter(r) || isDigit(r) }
