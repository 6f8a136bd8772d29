package lex_test

import (
	"math/rand"
	"slices"
	"strings"
	"testing"
	"unsafe"

	"windlass/api"
	"windlass/lex"
)

// samples: tokens of all sorts; where they stand is not theirs yet.
func samples() []api.Token {
	var tokens []api.Token
	for _, s := range allWords {
		tokens = append(tokens, word(s, 0))
	}
	for _, s := range allSigns {
		tokens = append(tokens, sign(s, 0))
	}
	for _, s := range []string{"a", "_", "Great", "x9", "whiles", strings.Repeat("n", 30)} {
		tokens = append(tokens, name(s, 0))
	}
	for _, s := range []string{"0", "1", "10", "9223372036854775808"} {
		tokens = append(tokens, number(s, 0))
	}
	for _, s := range []string{"", "a", `"`, `""`, `a"b`, `"a"`, " ", "\n", "#", "# \"", "é\xff\x00", "1", "while", "->"} {
		tokens = append(tokens, text(s, 0))
	}
	return tokens
}

func spelt(token api.Token) string {
	if token.Kind == api.TokText {
		return lex.Quote(token.Text)
	}
	return token.Text
}

// wantAgain writes the tokens with the blanks between them, and wants them told again.
func wantAgain(t *testing.T, blank string, tokens ...api.Token) {
	t.Helper()
	var s strings.Builder
	var want []api.Token
	for i, token := range tokens {
		if i > 0 {
			s.WriteString(blank)
		}
		token.At = s.Len()
		want = append(want, token)
		s.WriteString(spelt(token))
	}
	wantTokens(t, s.String(), want...)
}

// P5.3: each token by itself, each two of them, and long rows.
func TestAgain(t *testing.T) {
	wantAgain(t, " ")
	for _, a := range samples() {
		wantAgain(t, " ", a)
		for _, b := range samples() {
			for _, blank := range []string{" ", "\n", "\t", "\r", "  ", "# \"note\"\n"} {
				wantAgain(t, blank, a, b)
			}
		}
	}
	wantAgain(t, " ", samples()...)
	chance := rand.New(rand.NewSource(53))
	for range 2000 {
		tokens := samples()
		chance.Shuffle(len(tokens), func(i, j int) { tokens[i], tokens[j] = tokens[j], tokens[i] })
		wantAgain(t, " ", tokens[:chance.Intn(len(tokens)+1)]...)
	}
}

// P5.3: what is told of any source is told again.
func TestAgainOfSources(t *testing.T) {
	chance := rand.New(rand.NewSource(35))
	parts := slices.Concat(allWords, allSigns, []string{" ", "\n", "#", "#\n", `""`, `"x"`, `"a""b"`, "a", "B9", "_", "0", "00", "0120"})
	for range 5000 {
		var s strings.Builder
		for range chance.Intn(40) {
			s.WriteString(parts[chance.Intn(len(parts))])
		}
		tokens, _, err := lex.Tokens(s.String())
		if err == api.OK {
			wantAgain(t, " ", tokens[:len(tokens)-1]...)
		}
	}
}

// P5.1, P5.2: an answer is no other answer's, its spare room neither.
func TestAnswersShareNothing(t *testing.T) {
	for _, s := range []string{"", "a", "a 1 \"x\" +", strings.Repeat("a ", 100)} {
		one, _, _ := lex.Tokens(s)
		other, _, _ := lex.Tokens(s)
		want := slices.Clone(other)
		for i := range one[:cap(one)] {
			one[:cap(one)][i] = api.Token{Kind: 9, Text: "?", At: -1}
		}
		if !slices.Equal(other, want) {
			t.Errorf("%q: an answer changed by another one's change", shortened(s))
		}
		wantModel(t, s)
	}
	one, other := lex.Words(), lex.Words()
	for i := range one[:cap(one)] {
		one[:cap(one)][i] = "?"
	}
	if !slices.Equal(other, allWords) || !slices.Equal(lex.Words(), allWords) {
		t.Error("Words: an answer changed by another one's change")
	}
	wantTokens(t, "while", word("while", 0))
}

// within: whether b has a byte of a's.
func within(a, b string) bool {
	if len(a) == 0 || len(b) == 0 {
		return false
	}
	from, at := uintptr(unsafe.Pointer(unsafe.StringData(a))), uintptr(unsafe.Pointer(unsafe.StringData(b)))
	return at < from+uintptr(len(a)) && from < at+uintptr(len(b))
}

// P5.1, P5.2: what is answered doesn't keep what was handed in.
func TestAnswersKeepNothing(t *testing.T) {
	s := strings.Clone("on e007 { let x = 12 + 007 &\"text\" & \"it\"\"s\"; }")
	before := strings.Clone(s)
	tokens, _, _ := lex.Tokens(s)
	for i, token := range tokens {
		if within(s, token.Text) {
			t.Errorf("the text of %v is the source's", token)
		}
		for _, other := range tokens[:i] {
			if within(other.Text, token.Text) {
				t.Errorf("the texts of %v and %v are one", other, token)
			}
		}
	}
	if within(s, lex.Quote(s)) || s != before {
		t.Error("the source is kept or changed")
	}
}
