package lex_test

import (
	"slices"
	"strings"
	"testing"

	"windlass/api"
	"windlass/lex"
)

// P5.2: all words, rising.
func TestWords(t *testing.T) {
	got := lex.Words()
	if len(got) != 29 || !slices.Equal(got, allWords) {
		t.Errorf("%q, want %q", got, allWords)
	}
	for i := 1; i < len(got); i++ {
		if got[i-1] >= got[i] {
			t.Errorf("%q stands ahead of %q", got[i-1], got[i])
		}
	}
}

func wantName(t *testing.T, s string, want bool) {
	t.Helper()
	if got := lex.Name(s); got != want {
		t.Errorf("Name(%q): %v", shortened(s), got)
	}
}

// P5.2: a name has at most 20 bytes.
func TestNameLength(t *testing.T) {
	for _, letter := range []string{"a", "Z", "_"} {
		for count := range 40 {
			wantName(t, strings.Repeat(letter, count), 1 <= count && count <= 20)
			wantName(t, letter+strings.Repeat("9", count), count <= 19)
		}
		wantName(t, strings.Repeat(letter, 4096), false)
		wantName(t, strings.Repeat(letter, 4097), false)
		wantName(t, strings.Repeat(letter, 1<<20), false)
	}
	wantName(t, "", false)
}

// P5.2: a word isn't one.
func TestNameWord(t *testing.T) {
	for _, w := range allWords {
		wantName(t, w, false)
		wantName(t, w+"_", true)
		wantName(t, "_"+w, true)
		wantName(t, w+"1", true)
		wantName(t, strings.ToUpper(w), true)
		wantName(t, strings.ToUpper(w[:1])+w[1:], true)
		wantName(t, w[:len(w)-1], !slices.Contains(allWords, w[:len(w)-1]))
	}
}

// P5.2: a name by itself: nothing around it.
func TestNameByItself(t *testing.T) {
	for _, s := range []string{"a", "A", "_", "x9", "_0", "Abc_D1"} {
		wantName(t, s, true)
		for _, around := range []string{" ", "\t", "\n", "\r", "#", "# note", "#\n", ".", "-", "!", `"`, `""`, "\x00", "\xff", "é", " b", ";"} {
			wantName(t, s+around, false)
			wantName(t, around+s, false)
			wantName(t, around, false)
		}
		wantName(t, "1"+s, false)
		wantName(t, `"`+s+`"`, false)
		wantName(t, "("+s+")", false)
	}
	for _, s := range []string{"1", "0", "007", `""`, `"a"`, "é", "\x80", "=", "->", "!", "ſ"} {
		wantName(t, s, false)
	}
}

// P5.2: every byte in every place of a name.
func TestNameByte(t *testing.T) {
	for b := range 256 {
		c := byte(b)
		letter := 'a' <= c && c <= 'z' || 'A' <= c && c <= 'Z' || c == '_'
		part := letter || '0' <= c && c <= '9'
		wantName(t, string([]byte{c}), letter)
		wantName(t, string([]byte{c, 'x'}), letter)
		wantName(t, string([]byte{'x', c}), part)
		wantName(t, string([]byte{'x', c, 'x'}), part)
		wantName(t, strings.Repeat("x", 19)+string([]byte{c}), part)
	}
}

// P5.2: what Quote writes.
func TestQuote(t *testing.T) {
	for s, want := range map[string]string{
		"": `""`, "a": `"a"`, `"`: `""""`, `""`: `""""""`, `a"b`: `"a""b"`, `"a"`: `"""a"""`, `a"`: `"a"""`, `"a`: `"""a"`,
		" ": `" "`, "\n": "\"\n\"", "\x00": "\"\x00\"", "\xff": "\"\xff\"", "é": `"é"`, `\`: `"\"`, `'`: `"'"`, "#": `"#"`, "\xc3\"\xa9": "\"\xc3\"\"\xa9\"",
		strings.Repeat(`"`, 100):  strings.Repeat(`"`, 202),
		strings.Repeat("x", 5000): `"` + strings.Repeat("x", 5000) + `"`,
	} {
		if got := lex.Quote(s); got != want {
			t.Errorf("Quote(%q): %q, want %q", shortened(s), shortened(got), shortened(want))
		}
	}
	for b := range 256 {
		c := string([]byte{byte(b)})
		want := `"` + c + `"`
		if c == `"` {
			want = `""""`
		}
		if got := lex.Quote(c); got != want {
			t.Errorf("Quote(%q): %q", c, got)
		}
		wantTokens(t, want, text(c, 0))
	}
}

// P5.2: a name is what Tokens tells as one, of 20 bytes at most.
func TestNameAndTokens(t *testing.T) {
	for _, s := range []string{"a", "while", "1", `"a"`, " a", "a ", "a b", "", "a.b", "!", strings.Repeat("a", 20), strings.Repeat("a", 21)} {
		tokens, _, err := lex.Tokens(s)
		one := err == api.OK && len(tokens) == 2 && tokens[0].Kind == api.TokName && tokens[0].Text == s
		wantName(t, s, one && len(s) <= 20)
	}
}
