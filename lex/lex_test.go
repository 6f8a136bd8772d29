package lex_test

import (
	"slices"
	"strconv"
	"strings"
	"testing"

	"windlass/api"
	"windlass/lex"
)

func name(s string, at int) api.Token { return api.Token{Kind: api.TokName, Text: s, At: at} }

func word(s string, at int) api.Token { return api.Token{Kind: api.TokWord, Text: s, At: at} }

func number(s string, at int) api.Token { return api.Token{Kind: api.TokInt, Text: s, At: at} }

func text(s string, at int) api.Token { return api.Token{Kind: api.TokText, Text: s, At: at} }

func sign(s string, at int) api.Token { return api.Token{Kind: api.TokSign, Text: s, At: at} }

// As the chapter lists them, not as the program does.
var (
	allWords = strings.Split("after, and, ask, bool, break, continue, del, do, each, else, emit, false, fn, has, if, in, int, len, let, map, not, on, or, record, return, str, text, true, while", ", ")
	allSigns = strings.Fields("{ } ( ) [ ] , ; : . = == != < <= > >= + - * +% -% *% / % & ->")
)

// wantTokens: those wanted, and the end behind them.
func wantTokens(t *testing.T, s string, want ...api.Token) {
	t.Helper()
	got, at, err := lex.Tokens(s)
	want = append(slices.Clone(want), api.Token{Kind: api.TokEnd, At: len(s)})
	if err != api.OK || at != 0 || !slices.Equal(got, want) {
		t.Errorf("%q: %v, %d, %d, want %v", shortened(s), got, at, err, want)
	}
}

func wantError(t *testing.T, s string, place int, want api.Errno) {
	t.Helper()
	got, at, err := lex.Tokens(s)
	if err != want || at != place || len(got) != 0 {
		t.Errorf("%q: %v, %d, %d, want no tokens, %d, %d", shortened(s), got, at, err, place, want)
	}
}

func shortened(s string) string {
	if len(s) <= 80 {
		return s
	}
	return s[:80] + ".. (" + strconv.Itoa(len(s)) + " bytes)"
}

// P5.1: a source of no bytes, of 4096, of 4097; too long is told ahead of whatever else is wrong with it.
func TestTokensLong(t *testing.T) {
	wantTokens(t, "")
	for what, fill := range map[string]string{"blanks": " ", "a name": "a", "a number": "1", "noughts": "0", "a note": "#"} {
		full := strings.Repeat(fill, api.MaxSource)
		if _, at, err := lex.Tokens(full); at != 0 || err != api.OK {
			t.Errorf("%s of 4096 bytes: %d, %d", what, at, err)
		}
		wantError(t, full+fill, 0, api.ErrLexLong)
		wantError(t, full+full+full, 0, api.ErrLexLong)
	}
	wantTokens(t, strings.Repeat(" ", 4096))
	wantTokens(t, strings.Repeat("\n", 4095)+"a", name("a", 4095))
	wantTokens(t, strings.Repeat("a", 4096), name(strings.Repeat("a", 4096), 0))
	wantTokens(t, strings.Repeat("9", 4096), number(strings.Repeat("9", 4096), 0))
	wantTokens(t, strings.Repeat("0", 4096), number("0", 0))
	wantTokens(t, `"`+strings.Repeat("x", 4094)+`"`, text(strings.Repeat("x", 4094), 0))
	wantTokens(t, strings.Repeat(`"`, 4096), text(strings.Repeat(`"`, 2047), 0))
	wantError(t, strings.Repeat(`"`, 4095), 0, api.ErrLexOpen)
	wantError(t, strings.Repeat(" ", 4095)+"!", 4095, api.ErrLexByte)
	wantError(t, strings.Repeat(" ", 4095)+`"`, 4095, api.ErrLexOpen)
	wantError(t, "!"+strings.Repeat(" ", 4096), 0, api.ErrLexLong)
	wantError(t, " !"+strings.Repeat(" ", 4095), 0, api.ErrLexLong)
	wantError(t, strings.Repeat("é", 2048)+" ", 0, api.ErrLexLong)
	wantError(t, strings.Repeat(`"`, 4097), 0, api.ErrLexLong)
	wantError(t, strings.Repeat("a ", 1<<20), 0, api.ErrLexLong)
}

// P5.1: as many tokens as there may be.
func TestTokensMany(t *testing.T) {
	var want []api.Token
	for at := range 4096 {
		want = append(want, sign(";", at))
	}
	wantTokens(t, strings.Repeat(";", 4096), want...)
}

const (
	blanks = " \t\n\r"
	alone  = "{}()[],;:.=<>+-*/%&" // the signs of one byte
)

// P5.1: each byte by itself.
func TestTokensByte(t *testing.T) {
	for b := range 256 {
		s := string([]byte{byte(b)})
		switch c := byte(b); {
		case strings.Contains(blanks, s) || c == '#':
			wantTokens(t, s)
		case 'a' <= c && c <= 'z' || 'A' <= c && c <= 'Z' || c == '_':
			wantTokens(t, s, name(s, 0))
		case '0' <= c && c <= '9':
			wantTokens(t, s, number(s, 0))
		case strings.Contains(alone, s):
			wantTokens(t, s, sign(s, 0))
		case c == '"':
			wantError(t, s, 0, api.ErrLexOpen)
		default:
			wantError(t, s, 0, api.ErrLexByte)
		}
	}
}

// P5.1: each byte that may not be there, behind and ahead of what may; it may be in a text and in a note.
func TestTokensWrongByte(t *testing.T) {
	count := 0
	for b := range 256 {
		s := string([]byte{byte(b)})
		c := byte(b)
		letter := 'a' <= c && c <= 'z' || 'A' <= c && c <= 'Z' || c == '_'
		if letter || '0' <= c && c <= '9' || strings.Contains(blanks+alone+`#"`, s) {
			continue
		}
		count++
		for _, ahead := range []string{"a", "_", "7", "00", "while", "{", "-%", ">", `""`, `"x"`, `""""`, " ", "\n", "#\n"} {
			wantError(t, ahead+s, len(ahead), api.ErrLexByte)
			wantError(t, "="+s+ahead, 1, api.ErrLexByte)
			wantError(t, ahead+s+ahead, len(ahead), api.ErrLexByte)
			wantError(t, s+ahead, 0, api.ErrLexByte)
			wantError(t, s+s+ahead, 0, api.ErrLexByte)
		}
		wantTokens(t, `"`+s+`"`, text(s, 0))
		wantTokens(t, `"a`+s+`""`+s+`" b`, text("a"+s+`"`+s, 0), name("b", 8))
		wantTokens(t, "#"+s)
		wantTokens(t, "a#"+s+"\nb", name("a", 0), name("b", 4))
	}
	if count != 256-53-10-4-19-2 {
		t.Errorf("%d bytes may not be there", count)
	}
}

// P5.1: a ! is one of them but ahead of =.
func TestTokensNot(t *testing.T) {
	wantTokens(t, "!=", sign("!=", 0))
	wantTokens(t, "a!=b", name("a", 0), sign("!=", 1), name("b", 3))
	wantTokens(t, "!==", sign("!=", 0), sign("=", 2))
	wantTokens(t, "!===", sign("!=", 0), sign("==", 2))
	wantTokens(t, "!=!=", sign("!=", 0), sign("!=", 2))
	wantTokens(t, "=!=", sign("=", 0), sign("!=", 1))
	wantError(t, "!", 0, api.ErrLexByte)
	wantError(t, "a!", 1, api.ErrLexByte)
	wantError(t, "! =", 0, api.ErrLexByte)
	wantError(t, "!!=", 0, api.ErrLexByte)
	wantError(t, "!=!", 2, api.ErrLexByte)
	wantError(t, "!#\n=", 0, api.ErrLexByte)
	wantError(t, "!\n=", 0, api.ErrLexByte)
	wantError(t, `!"="`, 0, api.ErrLexByte)
}

// P5.1: words, and what is like a word but for a byte.
func TestTokensWord(t *testing.T) {
	for _, w := range allWords {
		wantTokens(t, w, word(w, 0))
		wantTokens(t, " "+w+"\n"+w, word(w, 1), word(w, len(w)+2))
		wantTokens(t, w+"("+w, word(w, 0), sign("(", len(w)), word(w, len(w)+1))
		wantTokens(t, w+`""`, word(w, 0), text("", len(w)))
		wantTokens(t, "1"+w, number("1", 0), word(w, 1))
		wantTokens(t, w+"#"+w, word(w, 0))
		for _, more := range []string{w + "_", w + "0", w + "z", w + "A", w + w, "_" + w, "z" + w, "Z" + w, strings.ToUpper(w), strings.ToUpper(w[:1]) + w[1:], w[:len(w)-1] + strings.ToUpper(w[len(w)-1:])} {
			wantTokens(t, more, name(more, 0))
		}
		for _, less := range []string{w[1:], w[:len(w)-1]} {
			if slices.Contains(allWords, less) {
				wantTokens(t, less, word(less, 0))
			} else {
				wantTokens(t, less, name(less, 0))
			}
		}
		wantError(t, w+"\x80", len(w), api.ErrLexByte)
	}
}

// P5.1: names.
func TestTokensName(t *testing.T) {
	for _, s := range []string{"a", "z", "A", "Z", "_", "__", "_1", "a1", "a_b", "aZ09_", "Abc", "x0x", "_while", strings.Repeat("n", 21), strings.Repeat("Long_9", 100)} {
		wantTokens(t, s, name(s, 0))
		wantTokens(t, "\t"+s+"\r", name(s, 1))
		wantTokens(t, s+" "+s, name(s, 0), name(s, len(s)+1))
		wantTokens(t, s+"."+s, name(s, 0), sign(".", len(s)), name(s, len(s)+1))
		wantTokens(t, s+`"q"`+s, name(s, 0), text("q", len(s)), name(s, len(s)+3))
		wantTokens(t, "9"+s, number("9", 0), name(s, 1))
	}
	for _, s := range []string{"é", "é1", "\x80a", "\xffa", "\xc3", "ſ", "\u212a", "ª", "ａ", "𝐚"} {
		wantError(t, s, 0, api.ErrLexByte)
		wantError(t, "a"+s, 1, api.ErrLexByte)
		wantError(t, "1"+s, 1, api.ErrLexByte)
		wantError(t, "a "+s+" a", 2, api.ErrLexByte)
	}
	// Digits, blanks and line ends of other scripts are none.
	for _, s := range []string{"٣", "１", "\u00a0", "\u2028", "\u0085", "\ufeff", "\v", "\f", "\x00", "\u2003"} {
		wantError(t, s, 0, api.ErrLexByte)
		wantError(t, "a\n"+s, 2, api.ErrLexByte)
	}
}

// P5.1: numbers.
func TestTokensInt(t *testing.T) {
	for _, c := range []struct{ spelt, said string }{
		{"0", "0"}, {"00", "0"}, {"0000000000000000000000", "0"}, {"1", "1"}, {"01", "1"}, {"007", "7"}, {"10", "10"},
		{"100", "100"}, {"0100", "100"}, {"0000100100", "100100"}, {"9876543210", "9876543210"}, {"09", "9"},
		{"9223372036854775807", "9223372036854775807"}, {"9223372036854775808", "9223372036854775808"},
		{"00018446744073709551616", "18446744073709551616"}, {strings.Repeat("10", 200), strings.Repeat("10", 200)},
	} {
		wantTokens(t, c.spelt, number(c.said, 0))
		size := len(c.spelt)
		wantTokens(t, " "+c.spelt+" "+c.spelt, number(c.said, 1), number(c.said, size+2))
		wantTokens(t, c.spelt+"a", number(c.said, 0), name("a", size))
		wantTokens(t, c.spelt+"_1", number(c.said, 0), name("_1", size))
		wantTokens(t, c.spelt+"if", number(c.said, 0), word("if", size))
		wantTokens(t, c.spelt+`"0"`, number(c.said, 0), text("0", size))
		wantTokens(t, "-"+c.spelt+"."+c.spelt, sign("-", 0), number(c.said, 1), sign(".", 1+size), number(c.said, 2+size))
		wantTokens(t, "+%"+c.spelt, sign("+%", 0), number(c.said, 2))
	}
	wantTokens(t, "0x1F", number("0", 0), name("x1F", 1))
	wantTokens(t, "1e9", number("1", 0), name("e9", 1))
}

// P5.1: texts.
func TestTokensText(t *testing.T) {
	for _, c := range []struct{ within, said string }{
		{"", ""}, {"a", "a"}, {" ", " "}, {`""`, `"`}, {`""""`, `""`}, {`""a`, `"a`}, {`a""`, `a"`}, {`a""b`, `a"b`},
		{`""a""`, `"a"`}, {`a""b""c`, `a"b"c`}, {`a""""b`, `a""b`}, {`"" ""`, `" "`}, {"\n", "\n"}, {"a\nb\r\n\tc", "a\nb\r\n\tc"},
		{"\x00", "\x00"}, {"\xff", "\xff"}, {"\xc3", "\xc3"}, {`\xc3""` + "\xa9", `\xc3"` + "\xa9"}, {"é", "é"}, {"é\"\"é", "é\"é"},
		{"\xe2\x82\"\"", "\xe2\x82\""}, {"# a", "# a"}, {`\`, `\`}, {`\n`, `\n`}, {`'`, `'`}, {"while", "while"}, {"007", "007"},
		{"a!b", "a!b"}, {strings.Repeat("x", 65), strings.Repeat("x", 65)}, {strings.Repeat(`""`, 100), strings.Repeat(`"`, 100)},
	} {
		spelt := `"` + c.within + `"`
		size := len(spelt)
		wantTokens(t, spelt, text(c.said, 0))
		wantTokens(t, " "+spelt+" ", text(c.said, 1))
		wantTokens(t, spelt+" "+spelt, text(c.said, 0), text(c.said, size+1))
		wantTokens(t, spelt+"\n"+spelt, text(c.said, 0), text(c.said, size+1))
		wantTokens(t, "a"+spelt+"b", name("a", 0), text(c.said, 1), name("b", 1+size))
		wantTokens(t, "1"+spelt+"2", number("1", 0), text(c.said, 1), number("2", 1+size))
		wantTokens(t, spelt+"="+spelt, text(c.said, 0), sign("=", size), text(c.said, size+1))
		wantTokens(t, spelt+"#\""+"\n"+spelt, text(c.said, 0), text(c.said, size+3))
		wantTokens(t, spelt+spelt, text(c.said+`"`+c.said, 0))
		wantError(t, `"`+c.within, 0, api.ErrLexOpen)
		wantError(t, "a "+`"`+c.within, 2, api.ErrLexOpen)
		wantError(t, spelt+` "`, size+1, api.ErrLexOpen)
		wantError(t, spelt+`"`, 0, api.ErrLexOpen)
		wantError(t, spelt+`;"`+c.within, size+1, api.ErrLexOpen)
		wantError(t, spelt+"\xff", size, api.ErrLexByte)
	}
	// As many quotes one behind the other as one likes: an even number of them is a text.
	for count := 1; count < 12; count++ {
		if count%2 == 1 {
			wantError(t, strings.Repeat(`"`, count), 0, api.ErrLexOpen)
			wantTokens(t, strings.Repeat(`"`, count)+`x"`, text(strings.Repeat(`"`, count/2)+"x", 0))
			wantTokens(t, `"x`+strings.Repeat(`"`, count), text("x"+strings.Repeat(`"`, count/2), 0))
		} else {
			wantTokens(t, strings.Repeat(`"`, count), text(strings.Repeat(`"`, count/2-1), 0))
			wantError(t, `"x`+strings.Repeat(`"`, count), 0, api.ErrLexOpen)
		}
	}
}

// P5.1: signs: each by itself, each two of them.
func TestTokensSign(t *testing.T) {
	if len(allSigns) != 27 {
		t.Fatalf("%d signs", len(allSigns))
	}
	for _, s := range allSigns {
		wantTokens(t, s, sign(s, 0))
		wantTokens(t, "a"+s+"b", name("a", 0), sign(s, 1), name("b", 1+len(s)))
		wantTokens(t, "1"+s+"2", number("1", 0), sign(s, 1), number("2", 1+len(s)))
		wantTokens(t, `"x"`+s+`""`, text("x", 0), sign(s, 3), text("", 3+len(s)))
		wantTokens(t, s+"#"+s, sign(s, 0))
		for _, other := range allSigns {
			for _, blank := range []string{" ", "\t", "\r\n", "#\n"} {
				wantTokens(t, s+blank+other, sign(s, 0), sign(other, len(s)+len(blank)))
			}
			wantTokens(t, s+other, parted(s+other)...)
		}
	}
}

// parted: the signs that s is made of, each as long as may be.
func parted(s string) []api.Token {
	var tokens []api.Token
	for at := 0; at < len(s); {
		longest := ""
		for _, one := range allSigns {
			if strings.HasPrefix(s[at:], one) && len(one) > len(longest) {
				longest = one
			}
		}
		tokens = append(tokens, sign(longest, at))
		at += len(longest)
	}
	return tokens
}

// P5.1: some rows of signs, told by hand.
func TestTokensSignRows(t *testing.T) {
	for s, want := range map[string]string{
		"===": "== =", "====": "== ==", "<==": "<= =", "<=>": "<= >", "<>": "< >", ">>=": "> >=", "=<": "= <", "=>": "= >", "->-": "-> -", "-->": "- ->",
		"->>": "-> >", "->=": "-> =", "-%>": "-% >", "-%%": "-% %", "+%%": "+% %", "%%": "% %", "%=": "% =", "*%*": "*% *", "**%": "* *%", "+-%": "+ -%",
		"/%": "/ %", "&&": "& &", "&%": "& %", "++": "+ +", "+=": "+ =", "<-": "< -", "<->": "< ->", "{}": "{ }", "[()]": "[ ( ) ]", "::.,;": ": : . , ;", "!=->": "!= ->",
	} {
		var tokens []api.Token
		at := 0
		for _, one := range strings.Fields(want) {
			tokens = append(tokens, sign(one, at))
			at += len(one)
		}
		wantTokens(t, s, tokens...)
	}
	wantTokens(t, "a+%b", name("a", 0), sign("+%", 1), name("b", 3))
	wantTokens(t, "a+ %b", name("a", 0), sign("+", 1), sign("%", 3), name("b", 4))
	wantTokens(t, "< =", sign("<", 0), sign("=", 2))
	wantTokens(t, "-\n>", sign("-", 0), sign(">", 2))
}

// P5.1: notes.
func TestTokensNote(t *testing.T) {
	wantTokens(t, "#")
	wantTokens(t, "##")
	wantTokens(t, "#\n")
	wantTokens(t, "#\n#")
	wantTokens(t, "# a 1 + ! é \x00")
	wantTokens(t, "# a\nb", name("b", 4))
	wantTokens(t, "#\n\nb", name("b", 3))
	wantTokens(t, "a # b\nc", name("a", 0), name("c", 6))
	wantTokens(t, "a#b\n", name("a", 0))
	wantTokens(t, "a#b", name("a", 0))
	wantTokens(t, "a#b#c\nd", name("a", 0), name("d", 6))
	wantTokens(t, "a#b\nc#d\ne", name("a", 0), name("c", 4), name("e", 8))
	wantTokens(t, "a#\nb", name("a", 0), name("b", 3))
	wantTokens(t, "1#\n2", number("1", 0), number("2", 3))
	wantTokens(t, "=#\n=", sign("=", 0), sign("=", 3))
	wantTokens(t, "-#>\n%", sign("-", 0), sign("%", 4))
	wantTokens(t, `"a"#`+"\n"+`"b"`, text("a", 0), text("b", 5))
	wantTokens(t, "\"a#b\nc\"d", text("a#b\nc", 0), name("d", 7))
	wantTokens(t, "# \"\na", name("a", 4))
	wantTokens(t, "# \"x\" \"\"\na", name("a", 9))
	wantTokens(t, "a # \"", name("a", 0))
	wantTokens(t, "#\"\n\"#\"", text("#", 3))
	// A carriage return doesn't end a note, nor does another line end.
	wantTokens(t, "# a\rb")
	wantTokens(t, "# a\r\nb", name("b", 5))
	wantTokens(t, "# a\u2028b\u0085c\vd\fe")
	wantTokens(t, "# \xc3\na", name("a", 4))
	wantTokens(t, "#\xe2\x82\na", name("a", 4))
	wantError(t, "#\n\xc3#", 2, api.ErrLexByte)
	wantError(t, "# \"\n\"", 4, api.ErrLexOpen)
	wantError(t, "# !\n!", 4, api.ErrLexByte)
}

// P5.1: blanks.
func TestTokensBlank(t *testing.T) {
	for _, blank := range []string{" ", "\t", "\n", "\r", "  ", "\r\n", " \t\n\r ", "\n\n\n\n"} {
		size := len(blank)
		wantTokens(t, blank)
		wantTokens(t, blank+"a", name("a", size))
		wantTokens(t, "a"+blank, name("a", 0))
		wantTokens(t, "a"+blank+"b", name("a", 0), name("b", 1+size))
		wantTokens(t, "1"+blank+"2", number("1", 0), number("2", 1+size))
		wantTokens(t, "+"+blank+"%", sign("+", 0), sign("%", 1+size))
		wantTokens(t, `"a"`+blank+`"b"`, text("a", 0), text("b", 3+size))
		wantTokens(t, "wh"+blank+"ile", name("wh", 0), name("ile", 2+size))
		wantTokens(t, `"`+blank+`"`, text(blank, 0))
		wantError(t, blank+"!"+blank, size, api.ErrLexByte)
		wantError(t, blank+`"`+blank, size, api.ErrLexOpen)
	}
	wantTokens(t, "ab", name("ab", 0))
}

// P5.1: of two errors the first is told.
func TestTokensFirstError(t *testing.T) {
	wantError(t, "!!", 0, api.ErrLexByte)
	wantError(t, "a ! b ?", 2, api.ErrLexByte)
	wantError(t, `? "x`, 0, api.ErrLexByte)
	wantError(t, `a?"x`, 1, api.ErrLexByte)
	wantError(t, `"x ?`, 0, api.ErrLexOpen)
	wantError(t, `"x" "y ?`, 4, api.ErrLexOpen)
	wantError(t, `"x" ? "y`, 4, api.ErrLexByte)
	wantError(t, "\"x\"\"\n ? \"\"", 0, api.ErrLexOpen)
	wantError(t, "# ?\n 'a' \"", 5, api.ErrLexByte)
	wantError(t, "\xff\"", 0, api.ErrLexByte)
	wantError(t, "é ?", 0, api.ErrLexByte)
}

// P5.1: a source of all sorts.
func TestTokensSource(t *testing.T) {
	wantTokens(t, "on e(a: int) { # n\n\tlet s = \"it\"\"s\";\r\n\tdo f(s, 007)-1; }",
		word("on", 0), name("e", 3), sign("(", 4), name("a", 5), sign(":", 6), word("int", 8), sign(")", 11), sign("{", 13),
		word("let", 20), name("s", 24), sign("=", 26), text(`it"s`, 28), sign(";", 35),
		word("do", 39), name("f", 42), sign("(", 43), name("s", 44), sign(",", 45), number("7", 47), sign(")", 50), sign("-", 51), number("1", 52), sign(";", 53), sign("}", 55))
	wantTokens(t, "map m: int -> text;x->y-%1", word("map", 0), name("m", 4), sign(":", 5), word("int", 7), sign("->", 11), word("text", 14), sign(";", 18),
		name("x", 19), sign("->", 20), name("y", 22), sign("-%", 23), number("1", 25))
}
