package lex_test

import (
	"math/rand"
	"slices"
	"strings"
	"testing"

	"windlass/api"
	"windlass/lex"
)

// The chapter's words once more, otherwise than the program has them: byte by byte, the longest beginning that is a token.

// modelTokens: what Tokens answers.
func modelTokens(s string) ([]api.Token, int, api.Errno) {
	if len(s) > 4096 {
		return nil, 0, api.ErrLexLong
	}
	var tokens []api.Token
	for at := 0; at < len(s); {
		if skip := modelSkip(s[at:]); skip > 0 {
			at += skip
			continue
		}
		if s[at] == '"' {
			within, size := modelText(s[at:])
			if size == 0 {
				return nil, at, api.ErrLexOpen
			}
			tokens = append(tokens, text(within, at))
			at += size
			continue
		}
		size := len(s) - at
		for size > 0 && modelKind(s[at:at+size]) == api.TokEnd {
			size--
		}
		if size == 0 {
			return nil, at, api.ErrLexByte
		}
		said := s[at : at+size]
		for len(said) > 1 && said[0] == '0' {
			said = said[1:]
		}
		tokens = append(tokens, api.Token{Kind: modelKind(s[at : at+size]), Text: said, At: at})
		at += size
	}
	return append(tokens, api.Token{At: len(s)}), 0, api.OK
}

func modelSkip(s string) int {
	switch {
	case s[0] == 32 || s[0] == 9 || s[0] == 10 || s[0] == 13:
		return 1
	case s[0] == 35:
		line, _, _ := strings.Cut(s, "\n")
		return len(line)
	}
	return 0
}

// modelText: behind the quote that begins it the first row of quotes whose number is odd ends it: all but its last one are pairs.
func modelText(s string) (string, int) {
	within := ""
	for at := 1; at < len(s); {
		if s[at] != '"' {
			within += s[at : at+1]
			at++
			continue
		}
		count := len(s[at:]) - len(strings.TrimLeft(s[at:], `"`))
		within += strings.Repeat(`"`, count/2)
		at += count
		if count%2 == 1 {
			return within, at
		}
	}
	return "", 0
}

// modelKind: of a token that is no text; TokEnd, if it is none.
func modelKind(s string) int {
	const letters, digits = "ABCDEFGHIJKLMNOPQRSTUVWXYZ_abcdefghijklmnopqrstuvwxyz", "0123456789"
	switch {
	case slices.Contains(allWords, s):
		return api.TokWord
	case slices.Contains(allSigns, s):
		return api.TokSign
	case all(s, digits):
		return api.TokInt
	case all(s, letters+digits) && all(s[:1], letters):
		return api.TokName
	}
	return api.TokEnd
}

func all(s, of string) bool {
	for i := range len(s) {
		if strings.IndexByte(of, s[i]) < 0 {
			return false
		}
	}
	return true
}

func wantModel(t *testing.T, s string) {
	t.Helper()
	got, at, err := lex.Tokens(s)
	want, place, fault := modelTokens(s)
	if at != place || err != fault || !slices.Equal(got, want) {
		t.Errorf("%q: %v, %d, %d, want %v, %d, %d", shortened(s), got, at, err, want, place, fault)
	}
}

// P5.1: each byte behind and ahead of each other one, and between letters, digits, quotes, signs.
func TestTokensTwoBytes(t *testing.T) {
	for a := range 256 {
		for b := range 256 {
			wantModel(t, string([]byte{byte(a), byte(b)}))
		}
		s := string([]byte{byte(a)})
		around := []string{"", "a", "0", "7", `"`, `""`, `"x`, "if", "\n", "#", "\xc3", "\xa9", "!", "=", "%", "-"}
		for _, ahead := range slices.Concat(around, allSigns) {
			for _, behind := range around {
				wantModel(t, ahead+s+behind)
				wantModel(t, behind+s+ahead)
			}
		}
	}
}

// P5.1: every row of some parts that isn't too long.
func TestTokensShort(t *testing.T) {
	wantRows(t, 4, "a", "if", "0", "7", `"`, " ", "\n", "#", "=", "!", "%", "-", ">", "\xc3\xa9", "\xc3")
	wantRows(t, 6, "a", "0", `"`, "\n", "#", "=")
	wantRows(t, 9, "a", `"`, " ")
}

func wantRows(t *testing.T, most int, parts ...string) {
	t.Helper()
	rows := []string{""}
	for range most {
		var longer []string
		for _, row := range rows {
			for _, part := range parts {
				longer = append(longer, row+part)
				wantModel(t, row+part)
			}
		}
		rows = longer
		if t.Failed() {
			return
		}
	}
}

// P5.1: longer rows of parts of all sorts, by chance.
func TestTokensByChance(t *testing.T) {
	chance := rand.New(rand.NewSource(5))
	parts := slices.Concat(allWords, allSigns, []string{" ", " ", "\n", "\t", "\r", "#", `"`, `"`, `""`, "a", "B9", "_", "0", "00", "120", `"x"`, "é"})
	for range 20000 {
		var s strings.Builder
		for range chance.Intn(30) {
			s.WriteString(parts[chance.Intn(len(parts))])
		}
		wantModel(t, s.String())
	}
	for range 20000 {
		b := make([]byte, chance.Intn(12))
		for i := range b {
			b[i] = byte(chance.Intn(256))
		}
		wantModel(t, string(b))
		wantModel(t, `"`+string(b))
		wantModel(t, "#"+string(b)+"\n"+string(b))
	}
}
