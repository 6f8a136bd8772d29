package parse_test

import (
	"math/rand"
	"slices"
	"strings"
	"testing"

	"windlass/api"
	"windlass/lex"
	"windlass/parse"
	"windlass/tree"
)

// grammar: P7.1, a rule a line: what it makes, what it is made of. NAME, GREAT, INT, TEXT, END and what begins with a ' are tokens. What begins with `other` is what may stand behind a - that isn't a literal's: it doesn't begin with an int.
const grammar = `
all source END
source
source source decl
decl 'record GREAT '{ fields '}
decl 'map NAME ': key '-> type ';
decl 'fn NAME '( maybeParams ') maybeResult block
decl 'on NAME '( maybeParams ') block
fields field
fields fields ', field
field NAME ': simple
simple 'int
simple 'text
simple 'bool
key 'int
key 'text
type simple
type GREAT
maybeParams
maybeParams params
params param
params params ', param
param NAME ': type
maybeResult
maybeResult '-> type
block '{ stmts '}
stmts
stmts stmts stmt
stmt 'let NAME '= expr ';
stmt NAME '= expr ';
stmt NAME '[ expr '] '= expr ';
stmt 'del NAME '[ expr '] ';
stmt if
if 'if expr block
if 'if expr block 'else block
if 'if expr block 'else if
stmt loop
stmt NAME ': loop
loop 'while expr block
loop 'each NAME 'in NAME block
stmt 'break ';
stmt 'break NAME ';
stmt 'continue ';
stmt 'continue NAME ';
stmt 'return ';
stmt 'return expr ';
stmt 'emit expr ';
stmt 'after expr NAME '( maybeArgs ') ';
stmt 'do expr ';
expr and
expr expr 'or and
and not
and and 'and not
not 'not not
not test
test sum
test sum compare sum
compare '==
compare '!=
compare '<
compare '<=
compare '>
compare '>=
sum product
sum sum add product
add '+
add '-
add '+%
add '-%
add '&
product factor
product product times factor
times '*
times '*%
times '/
times '%
factor minus
factor post
minus '- INT
minus '- minus
minus '- otherPost
post primary
post post '. NAME
otherPost otherPrimary
otherPost otherPost '. NAME
primary INT
primary otherPrimary
otherPrimary TEXT
otherPrimary 'true
otherPrimary 'false
otherPrimary '( expr ')
otherPrimary 'len '( expr ')
otherPrimary 'str '( expr ')
otherPrimary 'has NAME '[ expr ']
otherPrimary 'ask NAME '( expr ')
otherPrimary NAME
otherPrimary NAME '( maybeArgs ')
otherPrimary NAME '[ expr ']
otherPrimary GREAT '{ parts '}
maybeArgs
maybeArgs args
args expr
args args ', expr
parts part
parts parts ', part
part NAME ': expr`

// item: how far a rule has been seen, and behind how many tokens it began.
type item struct{ rule, seen, from int }

// chart tells by the grammar alone, rule by rule, behind which tokens which others may stand.
type chart struct {
	rules [][]string
	by    map[string][]int // the rules of what is made
	none  map[string]bool  // what may be made of nothing
	sets  [][]item         // a set ahead of each token that was seen, and one behind them
}

func newChart() *chart {
	c := &chart{by: map[string][]int{}, none: map[string]bool{}}
	for line := range strings.Lines(strings.TrimSpace(grammar)) {
		rule := strings.Fields(line)
		c.by[rule[0]] = append(c.by[rule[0]], len(c.rules))
		c.rules = append(c.rules, rule)
		c.none[rule[0]] = c.none[rule[0]] || len(rule) == 1
	}
	c.close([]item{{rule: 0, seen: 1}})
	return c
}

// close adds to a set all that follows from it, and puts it behind the others.
func (c *chart) close(set []item) {
	here := len(c.sets)
	known := map[item]bool{}
	for _, i := range set {
		known[i] = true
	}
	add := func(i item) {
		if !known[i] {
			known[i] = true
			set = append(set, i)
		}
	}
	for n := 0; n < len(set); n++ {
		i := set[n]
		rule := c.rules[i.rule]
		if i.seen == len(rule) {
			if i.from == here {
				continue // of nothing: seen to where it is waited for
			}
			for _, waits := range c.sets[i.from] {
				if wanted := c.rules[waits.rule]; waits.seen < len(wanted) && wanted[waits.seen] == rule[0] {
					add(item{waits.rule, waits.seen + 1, waits.from})
				}
			}
			continue
		}
		for _, r := range c.by[rule[i.seen]] {
			add(item{r, 1, here})
		}
		if c.none[rule[i.seen]] {
			add(item{i.rule, i.seen + 1, i.from})
		}
	}
	c.sets = append(c.sets, set)
}

func terminal(t api.Token) string {
	switch {
	case t.Kind == api.TokName && strings.ToUpper(t.Text[:1]) == t.Text[:1] && t.Text[0] != '_':
		return "GREAT"
	case t.Kind == api.TokWord, t.Kind == api.TokSign:
		return "'" + t.Text
	}
	return map[int]string{api.TokName: "NAME", api.TokInt: "INT", api.TokText: "TEXT", api.TokEnd: "END"}[t.Kind]
}

// after: the chart behind a token; nil, if the token can't stand there.
func (c *chart) after(t api.Token) *chart {
	var set []item
	for _, i := range c.sets[len(c.sets)-1] {
		if rule := c.rules[i.rule]; i.seen < len(rule) && rule[i.seen] == terminal(t) {
			set = append(set, item{i.rule, i.seen + 1, i.from})
		}
	}
	if set == nil {
		return nil
	}
	next := *c
	next.sets = slices.Clip(c.sets)
	next.close(set)
	return &next
}

// firstWrong: which token can't stand where it does; -1: all can.
func (c *chart) firstWrong(tokens []api.Token) int {
	for i, t := range tokens {
		if c = c.after(t); c == nil {
			return i
		}
	}
	return -1
}

func tokensOf(t *testing.T, source string) []api.Token {
	t.Helper()
	tokens, _, err := lex.Tokens(source)
	if err != api.OK {
		t.Fatalf("%s: %d", source, err)
	}
	return tokens
}

// spelt: the tokens but for the end, as they are written.
func spelt(tokens []api.Token) []string {
	var list []string
	for _, t := range tokens[:len(tokens)-1] {
		if t.Kind == api.TokText {
			t.Text = lex.Quote(t.Text)
		}
		list = append(list, t.Text)
	}
	return list
}

// wantByGrammar holds Parse of tokens with blanks between against the chart, which has seen the first ones; they are neither too many nor too long. It tells whether they are a source.
func wantByGrammar(t *testing.T, behind *chart, seen int, list []string) bool {
	t.Helper()
	source := strings.Join(list, " ")
	tokens := tokensOf(t, source)
	wrong := behind.firstWrong(tokens[seen:])
	if wrong >= 0 {
		wantFault(t, source, tokens[seen+wrong].At, api.ErrParse)
		return false
	}
	got, at, err := parse.Parse(source)
	if err != api.OK || at != 0 || !tree.Is(got) {
		t.Errorf("%s: %d at %d", source, err, at)
	}
	return true
}

// samples: of each sort of declaration, statement and expression.
func samples() []string {
	list := []string{
		"record P { x : int , y : text , z : bool }", "map m : int -> text ;", "map m : text -> P ;", "fn f ( ) { }", "fn f ( a : int , b : P ) -> bool { return ; }", "fn f ( ) -> P { }", "on e ( ) { }", "on e ( a : text ) { return a ; }", "on e ( ) { } record P { x : int } map m : int -> int ;",
	}
	for _, s := range []string{
		"let a = 1 ;", "a = b ;", "a [ 1 ] = b ;", "del a [ b ] ;", "if a { }", "if a { b = 1 ; } else { c = 1 ; }", "if a { } else if b { } else { }", "while a { }", "l : while a { break l ; }", "each k in m { }", "l : each k in m { continue l ; }", "break ;", "continue ;", "return ;", "return 1 ;", `emit "a" ;`, "after 1 e ( ) ;", "after a e ( b , 2 ) ;", "do f ( ) ;", "a = 1 ; b = 2 ;",
	} {
		list = append(list, "on e ( ) { "+s+" }")
	}
	for _, s := range []string{
		"a or b or c", "a and b and c", "not not a", "a == b", "not a < b", "a + b - c +% d -% e & f", "a * b *% c / d % e", "- a", "- 1", "- - 1", "a - 1", "- ( 1 )", "a . b . c", "1 . f", "( a )", "( - 1 ) . f", "len ( a )", "str ( 1 )", "has m [ a ]", "ask p ( a )", "f ( )", "f ( a , 1 , true )", "m [ 1 ]", "P { x : 1 , y : false }", `"a" & "b"`, "f ( m [ P { x : ( a ) } . x ] )",
	} {
		list = append(list, "on e ( ) { x = "+s+" ; }")
	}
	return list
}

// vocabulary: every word and sign, and names, numbers, texts.
func vocabulary() []string {
	return append(append(lex.Words(), strings.Fields("{ } ( ) [ ] , ; : . = == != < <= > >= + - * +% -% *% / % & ->")...), "a", "_A", "P", "1", "00", `"t"`, `"("`, `"if"`)
}

// P7.1, P7.2: the samples as they are; each token left out, doubled, and every other one put ahead of it and in its place; the end at each place.
func TestEachToken(t *testing.T) {
	right := 0
	start := newChart()
	for _, sample := range samples() {
		list := spelt(tokensOf(t, sample))
		tokens := tokensOf(t, strings.Join(list, " "))
		if !wantByGrammar(t, start, 0, list) {
			t.Errorf("%s isn't read", sample)
		}
		behind := start
		for i := range list {
			ahead, rest := list[:i:i], list[i+1:]
			changed := [][]string{ahead, slices.Concat(ahead, rest), slices.Concat(ahead, list[i:i+1], list[i:])}
			for _, other := range vocabulary() {
				changed = append(changed, slices.Concat(ahead, []string{other}, rest), slices.Concat(ahead, []string{other}, list[i:]))
			}
			for _, c := range changed {
				if wantByGrammar(t, behind, i, c) {
					right++
				}
			}
			behind = behind.after(tokens[i])
		}
		for _, other := range vocabulary() {
			wantByGrammar(t, behind, len(list), append(slices.Clone(list), other))
		}
	}
	if right < 1000 {
		t.Errorf("only %d are sources", right)
	}
}

// P7.1, P7.2: two parts of samples one behind the other, and tokens by chance, most of them such as may stand there.
func TestTokensByChance(t *testing.T) {
	r := rand.New(rand.NewSource(71))
	start := newChart()
	all, words := samples(), vocabulary()
	for range 4000 {
		a, b := strings.Fields(all[r.Intn(len(all))]), strings.Fields(all[r.Intn(len(all))])
		wantByGrammar(t, start, 0, append(a[:r.Intn(len(a)+1):len(a)], b[r.Intn(len(b)):]...))
	}
	longest := 0
	for range 1500 {
		var list []string
		behind := start
		for len(list) < 60 {
			word := words[r.Intn(len(words))]
			next := behind.after(tokensOf(t, word)[0])
			if next == nil && r.Intn(400) > 0 {
				continue
			}
			list = append(list, word)
			if next == nil {
				break
			}
			behind = next
		}
		longest = max(longest, len(list))
		source := strings.Join(list, " ")
		if _, _, err := parse.Parse(source); err == api.ErrParseMany || err == api.ErrParseDeep {
			continue
		}
		wantByGrammar(t, start, 0, list)
	}
	if longest < 60 {
		t.Errorf("at most %d tokens", longest)
	}
}
