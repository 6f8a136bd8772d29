package emit_test

import (
	"fmt"
	"math/big"
	"math/rand"
	"strconv"
	"strings"

	"windlass/api"
	"windlass/lex"
)

// made: an expression of literals and operators alone, and what it comes to.
type made struct {
	source string
	value  api.Value
}

// literal: the value itself, written down.
func literal(v api.Value) made {
	switch v.Kind {
	case api.Int:
		return made{strconv.FormatInt(v.Int, 10), v}
	case api.Text:
		return made{lex.Quote(v.Text), v}
	}
	return made{strconv.FormatBool(v.Int == 1), v}
}

// composer makes expressions by chance; used tells how often it took which operator, with which kind of arguments.
type composer struct {
	*rand.Rand
	used map[string]int
}

func (k composer) pick(texts ...string) string { return texts[k.Intn(len(texts))] }

var kinds = []string{"int", "text", "bool"}

// some: an expression of this kind with at least one operator, none of which traps.
func (k composer) some(kind string, deep int) made {
	for {
		sign := k.pick(map[string][]string{
			"int":  {"+", "-", "*", "+%", "-%", "*%", "/", "%", "neg", "len"},
			"text": {"&", "str"},
			"bool": {"==", "!=", "<", "<=", ">", ">=", "not"},
		}[kind]...)
		asked := k.asked(sign)
		a, b := k.part(asked, deep-1), k.part(asked, deep-1)
		if k.Intn(6) == 0 {
			b.value, b.source = a.value, a.source
		}
		if e, isSafe := joined(sign, a, b); isSafe {
			k.used[asked+" "+sign]++
			return e
		}
	}
}

// asked: of which kind an operator's arguments are.
func (k composer) asked(sign string) string {
	switch sign {
	case "len", "&":
		return "text"
	case "not":
		return "bool"
	case "==", "!=":
		return k.pick(kinds...)
	case "<", "<=", ">", ">=":
		return k.pick("int", "text")
	}
	return "int"
}

func (k composer) part(kind string, deep int) made {
	if deep > 0 && k.Intn(3) > 0 {
		return k.some(kind, deep)
	}
	switch kind {
	case "int":
		edges := []int64{0, 1, -1, 2, -2, 7, 10, 1<<63 - 1, 1<<63 - 2, -1 << 63, -1<<63 + 1, 1 << 32, 3037000499, -3037000500}
		return literal(numbered(edges[k.Intn(len(edges))]))
	case "text":
		return literal(texted(k.pick("", "a", "b", "aa", "\"", "#", "\xff\x00", strings.Repeat("x", 32), strings.Repeat("x", 63), strings.Repeat("y", 64))))
	}
	return literal(truth(k.Intn(2) == 0))
}

// joined: the expression of an operator and its arguments (one takes a alone), if it doesn't trap on them.
func joined(sign string, a, b made) (made, bool) {
	switch sign {
	case "neg":
		v, isSafe := reckoned("-", 0, a.value.Int)
		return made{"(- (" + a.source + "))", v}, isSafe
	case "len":
		return made{"len(" + a.source + ")", numbered(int64(len(a.value.Text)))}, true
	case "str":
		return made{"str(" + a.source + ")", texted(strconv.FormatInt(a.value.Int, 10))}, true
	case "not":
		return made{"(not " + a.source + ")", truth(a.value.Int == 0)}, true
	}
	source := "(" + a.source + " " + sign + " " + b.source + ")"
	switch sign {
	case "&":
		s := a.value.Text + b.value.Text
		return made{source, texted(s)}, len(s) <= api.MaxText
	case "==", "!=", "<", "<=", ">", ">=":
		order := big.NewInt(a.value.Int).Cmp(big.NewInt(b.value.Int))
		if a.value.Kind == api.Text {
			order = strings.Compare(a.value.Text, b.value.Text)
		}
		isSo := map[string]bool{"==": order == 0, "!=": order != 0, "<": order < 0, "<=": order <= 0, ">": order > 0, ">=": order >= 0}
		return made{source, truth(isSo[sign])}, true
	}
	v, isSafe := reckoned(sign, a.value.Int, b.value.Int)
	return made{source, v}, isSafe
}

// reckoned: by P9.1, in whole numbers of any size; false, if it traps.
func reckoned(sign string, a, b int64) (api.Value, bool) {
	x, y, z := big.NewInt(a), big.NewInt(b), new(big.Int)
	switch sign[:1] {
	case "+":
		z.Add(x, y)
	case "-":
		z.Sub(x, y)
	case "*":
		z.Mul(x, y)
	default:
		if b == 0 {
			return numbered(0), false
		}
		if z.Quo(x, y); sign == "%" {
			z.Rem(x, y)
		}
	}
	if len(sign) == 2 {
		low := new(big.Int).And(z, new(big.Int).SetUint64(1<<64-1))
		return numbered(int64(low.Uint64())), true
	}
	return numbered(z.Int64()), z.IsInt64()
}

// rare: the operators that there are, with each kind of arguments that they may have, that weren't taken often enough.
func (k composer) rare(times int) []string {
	var list []string
	add := func(kind string, signs ...string) {
		for _, sign := range signs {
			if k.used[kind+" "+sign] < times {
				list = append(list, fmt.Sprint(kind, " ", sign, ": ", k.used[kind+" "+sign]))
			}
		}
	}
	add("int", "+", "-", "*", "+%", "-%", "*%", "/", "%", "neg", "str", "==", "!=", "<", "<=", ">", ">=")
	add("text", "len", "&", "==", "!=", "<", "<=", ">", ">=")
	add("bool", "not", "==", "!=")
	return list
}
