package emit_test

import (
	"fmt"
	"math/rand"
	"strings"

	"windlass/api"
)

// scribe writes drafts of sources by chance. A draft has a blank between any two tokens; the names of variables begin with $, those of labels with @; brackets may stand where << and >> do. A style makes a source of it.
type scribe struct {
	*rand.Rand
	isCalm bool // few expressions and statements trap or ask
}

// head: functions, of which some are small enough to be laid in.
const head = `record P { x : int , s : text } map m : int -> int ; map w : text -> text ; map p : int -> P ; map r : int -> bool ;
fn none ( ) { } fn same ( $i : int ) -> int { return $i ; } fn half ( $i : int ) -> int { return $i / 2 ; } fn both ( $i : int ) -> int { return m [ $i ] +% m [ $i ] ; }
fn pair ( $i : int , $j : text ) -> P { return P { s : $j , x : $i } ; } fn put ( $i : int , $j : int ) { m [ $i ] = $j ; del p [ $j ] ; } fn say ( $i : text ) -> text { emit $i ; return $i & "!" ; }
fn down ( $i : int ) { if $i > 0 { do down ( $i - 1 ) ; } } fn twice ( $i : int ) -> int { return same ( same ( $i ) ) ; } fn maybe ( $i : int ) -> bool { if 1 + 1 == 2 { return r [ $i ] ; } else { return not r [ $i ] ; } }
`

func (k scribe) pick(texts ...string) string { return texts[k.Intn(len(texts))] }

func (k scribe) expr(kind string, deep int) string { return "<< " + k.inner(kind, deep) + " >>" }

func (k scribe) inner(kind string, deep int) string {
	if deep < 1 || k.Intn(5) == 0 {
		return k.leaf(kind)
	}
	one := func(kind string) string { return k.expr(kind, deep-1) }
	two := func(kind string, signs ...string) string {
		return "( " + one(kind) + " " + k.pick(signs...) + " " + one(kind) + " )"
	}
	isWild := !k.isCalm || k.Intn(20) == 0
	switch kind {
	case "int":
		if isWild {
			return k.pick(two("int", "+", "-", "*", "/", "%"), "- ( "+one("int")+" )", "half ( "+one("int")+" )")
		}
		return k.pick(two("int", "+%", "-%", "*%"), two("int", "+%", "-%", "*%"), "len ( "+one("text")+" )", "P { s : "+one("text")+" , x : "+one("int")+" } . x", "same ( "+one("int")+" )", "twice ( "+one("int")+" )")
	case "text":
		if isWild {
			return k.pick(two("text", "&"), "say ( "+one("text")+" )", "ask q ( "+one("text")+" )")
		}
		return k.pick("str ( "+one("int")+" )", two("text", "&"), "pair ( "+one("int")+" , "+one("text")+" ) . s")
	case "P":
		return k.pick("P { x : "+one("int")+" , s : "+one("text")+" }", "pair ( "+one("int")+" , "+one("text")+" )", "p [ "+one("int")+" ]")
	}
	asked := k.pick("int", "text")
	return k.pick("( not "+one("bool")+" )", two("bool", "==", "!=", "and", "or"), two(asked, "==", "!=", "<", "<=", ">", ">="), "maybe ( "+one("int")+" )")
}

func (k scribe) leaf(kind string) string {
	return k.pick(map[string][]string{
		"int":  {"1", "2", "7", "- 1", "$a", "$x", "$v", "m [ $a ]", "m [ $a ]", "m [ $x ]", "both ( $a )", "p [ $a ] . x", "$n . x"},
		"text": {`"a"`, `"b"`, `""`, "$s", "$y", "w [ $s ]", "w [ $s ]", "w [ $y ]", "p [ $x ] . s", "$n . s"},
		"bool": {"true", "false", "$b", "$z", "has m [ $a ]", "has w [ $s ]", "r [ $a ]", "r [ $a ]"},
		"P":    {"$n", "p [ $a ]", "p [ $a ]", `P { s : "a" , x : 3 }`},
	}[kind]...)
}

func (k scribe) block(deep int) string {
	var list []string
	for range k.Intn(4) {
		list = append(list, k.statement(deep-1))
	}
	return "{ " + strings.Join(list, " ") + " }"
}

func (k scribe) statement(deep int) string {
	switch n := k.Intn(24); {
	case n < 3:
		return "emit " + k.expr("text", 2) + " ;"
	case n < 5:
		return "m [ " + k.expr("int", 1) + " ] = " + k.expr("int", 2) + " ;"
	case n < 6:
		return "w [ " + k.expr("text", 1) + " ] = " + k.expr("text", 2) + " ;"
	case n < 12:
		name := k.pick("x", "v", "y", "z", "n")
		return "$" + name + " = " + k.expr(map[string]string{"x": "int", "v": "int", "y": "text", "z": "bool", "n": "P"}[name], 2) + " ;"
	case n < 13:
		return "after " + k.pick("1", "5", k.expr("int", 1)) + " e ( " + k.expr("int", 1) + " , " + k.expr("text", 1) + " , " + k.expr("bool", 1) + " ) ;"
	case n < 15:
		return "do " + k.expr(k.pick("int", "text", "bool", "P"), 2) + " ;"
	case n < 17:
		return k.pick("p [ $x ] = $n ;", "del p [ $x ] ;", "r [ $a ] = $z ;", "do << put ( $x , 3 ) >> ;", "do none ( ) ;", "do down ( $x ) ;", "do down ( 11 ) ;", "do down ( 12 ) ;", "del m [ "+k.expr("int", 1)+" ] ;")
	case deep < 1:
		return k.pick("", "", k.ending())
	case n < 20:
		return "if " + k.expr("bool", 2) + " " + k.block(deep) + k.pick("", " else "+k.block(deep), " else if "+k.expr("bool", 1)+" "+k.block(deep))
	case n < 22:
		return fmt.Sprintf("@l%d : while %s { $x = $x +%% 1 ; if $x > 3 { break @l%d ; } %s %s }", deep, k.pick("true", "$b", k.expr("bool", 2)), deep, k.statement(deep-1), k.pick("", "", "", "continue ;", "break ;", k.ending()))
	}
	return fmt.Sprintf("@l%d : each $k%d in m { $%s = $k%d ; %s %s }", deep, deep, k.pick("x", "v"), deep, k.statement(deep-1), k.pick("", "", fmt.Sprintf("continue @l%d ;", deep)))
}

// ending: of the function f or of a handler; both may end without a value, as f has none.
func (k scribe) ending() string { return "return ;" }

func (k scribe) body(count int) string {
	var list []string
	for range count {
		list = append(list, k.statement(2))
	}
	return `let $x = 0 ; let $v = 1 ; let $y = "" ; let $z = true ; let $n = P { x : 1 , s : "n" } ; ` + strings.Join(list, " ")
}

func (k scribe) draft() string {
	params := "( $a : int , $s : text , $b : bool )"
	f := "fn f " + params + " { " + k.body(k.Intn(5)) + " }"
	e := "on e " + params + " { " + k.body(3+k.Intn(9)) + k.pick("", " do f ( $x , $y , $z ) ;", " emit str ( $x ) ;", " emit $y & str ( $v ) ;") + " }"
	return head + f + " " + e + " on other ( ) { after 5 e ( 1 , str ( 2 + 3 ) , not false ) ; }"
}

// style: how a draft is written.
type style struct {
	*rand.Rand
	variables, labels map[string]string // other names; those that aren't there stay
	between           []string          // what may stand between tokens
	brackets          int               // how many of a hundred places for brackets have them
}

// tight: as short as may be.
func tight() style { return style{Rand: rand.New(rand.NewSource(0)), between: []string{""}} }

func (s style) source(draft string) string {
	var out strings.Builder
	var open []bool
	last := ""
	for _, token := range strings.Fields(draft) {
		switch token {
		case "<<":
			open = append(open, s.Intn(100) < s.brackets)
			if token = "("; !open[len(open)-1] {
				continue
			}
		case ">>":
			isOpen := open[len(open)-1]
			open = open[:len(open)-1]
			if token = ")"; !isOpen {
				continue
			}
		}
		token = s.named(token)
		blanks := s.between[s.Intn(len(s.between))]
		if blanks == "" && grown(last, token) {
			blanks = " "
		}
		out.WriteString(blanks + token)
		last = token
	}
	return out.String() + s.between[s.Intn(len(s.between))]
}

func (s style) named(token string) string {
	names := map[byte]map[string]string{'$': s.variables, '@': s.labels}
	list, isName := names[token[0]]
	if !isName {
		return token
	}
	if other, isThere := list[token[1:]]; isThere {
		return other
	}
	return token[1:]
}

// grown: whether two tokens would be one, or others, without a blank between.
func grown(a, b string) bool {
	if a == "" {
		return false
	}
	last, first := a[len(a)-1], b[0]
	return isPartOfName(last) && isPartOfName(first) || strings.Contains("+-*=!<>", string(last)) && strings.Contains("%=>", string(first))
}

func isPartOfName(c byte) bool {
	return c == '_' || c >= '0' && c <= '9' || c >= 'a' && c <= 'z' || c >= 'A' && c <= 'Z'
}

// someSources: by chance, none too long.
func someSources(seed int64, count int) []string {
	var list []string
	for _, draft := range someDrafts(seed, count) {
		list = append(list, tight().source(draft))
	}
	return list
}

func someDrafts(seed int64, count int) []string {
	k := scribe{Rand: rand.New(rand.NewSource(seed))}
	var list []string
	for len(list) < count {
		k.isCalm = k.Intn(3) > 0
		if draft := k.draft(); len(tight().source(draft)) <= api.MaxSource {
			list = append(list, draft)
		}
	}
	return list
}

// state: of the sources' maps, with so many entries each, of which the keys 0 and above are often looked for.
func state(entries int) api.State {
	maps := make([][]api.Entry, 4)
	for i := range entries {
		n := numbered(int64(i) - 1)
		maps[0] = append(maps[0], api.Entry{Key: n, Value: numbered(int64(i*i) - 4)})
		maps[1] = append(maps[1], api.Entry{Key: texted(strings.Repeat("a", i)), Value: texted(fmt.Sprint("w", i))})
		maps[2] = append(maps[2], api.Entry{Key: n, Value: api.Value{Kind: api.Record, Fields: []api.Value{numbered(int64(i)), texted(fmt.Sprint("p", i))}}})
		maps[3] = append(maps[3], api.Entry{Key: n, Value: truth(i%2 == 0)})
	}
	return api.State{Maps: maps}
}

// occasions: states empty and full, events of each edge, answers short and long, timers none and many.
func occasions() []occasion {
	var list []occasion
	answers := []string{"one", "", strings.Repeat("z", 64), "four", "five"}
	for i, n := range []int64{0, 1, -1, 2, 3, 22, 14, 1<<63 - 1, -1 << 63} {
		for j, s := range []string{"", "aa", strings.Repeat("a", 60)} {
			given := answers[:(i+2*j)%6]
			if (i+j)%8 == 7 {
				given = []string{"x", strings.Repeat("z", 65), "y", "y"}
			}
			e := api.Event{Name: "e", Args: []api.Value{numbered(n), texted(s), truth((i+j)%2 == 0)}}
			list = append(list, occasion{state([]int{0, 3, 24, 9}[(i+3*j)%4]), e, given, []int{-1, 0, 3, 11, 12, 0}[(2*i+j)%6]})
		}
	}
	return append(list, occasion{state(2), api.Event{Name: "other"}, nil, 7})
}
