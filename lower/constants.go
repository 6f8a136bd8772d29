package lower

import (
	"iter"
	"slices"
	"strings"

	"windlass/api"
)

const (
	maxConstants = 1000 // of a sort, that code may have
	maxDigitBits = 8
)

// constants: digitBits: integers that find no room among them are made of digits of so many bits.
type constants struct {
	ints      pool[int64]
	texts     pool[string]
	digitBits int
}

// pool: each constant of a sort has a number.
type pool[T comparable] struct {
	list    []T
	numbers map[T]int
}

func poolOf[T comparable](wanted []T) pool[T] {
	p := pool[T]{numbers: map[T]int{}}
	for _, x := range wanted {
		if _, isThere := p.numbers[x]; !isThere {
			p.numbers[x] = len(p.list)
			p.list = append(p.list, x)
		}
	}
	return p
}

func (p pool[T]) isTooGreat() bool { return len(p.list) > maxConstants }

// pooled: all that are wanted; if these are too many, the pieces of which all can be made, and then as many as there is room for.
func pooled[T comparable](wanted []T, pieces func() []T) pool[T] {
	p := poolOf(wanted)
	if p.isTooGreat() {
		p = poolOf(poolOf(slices.Concat(pieces(), wanted)).list[:maxConstants])
	}
	return p
}

// wanted: constants that functions ask for. Ports' names stand ahead of other texts, as nothing can be put in their place.
type wanted struct {
	ints         []int64
	ports, texts []string
}

func wantedBy(decls []api.Decl, p api.Program) wanted {
	var w wanted
	for i := range decls {
		for part := range parts(decls[i].Body) {
			switch x := part.(type) {
			case *api.Expr:
				w.addExpr(x)
			case *api.Stmt:
				w.addStmt(x, p)
			}
		}
	}
	return w
}

func (w *wanted) addExpr(e *api.Expr) {
	switch e.Kind {
	case api.EInt:
		w.ints = append(w.ints, e.Int)
	case api.EText:
		w.texts = append(w.texts, e.Text)
	case api.EAsk:
		w.ports = append(w.ports, e.Name)
	}
}

// addStmt: the zeros with which `each` begins.
func (w *wanted) addStmt(s *api.Stmt, p api.Program) {
	if s.Kind != api.SEach {
		return
	}
	if p.Maps[mapNamed(p, s.Name)].Key.Kind == api.Int {
		w.ints = append(w.ints, 0)
	} else {
		w.texts = append(w.texts, "")
	}
}

// choices hands on the constants to be tried, one behind the other. Small digits leave room for more constants, great ones make long integers of fewer instructions.
func choices(w wanted) iter.Seq[constants] {
	return func(yield func(constants) bool) {
		texts := slices.Concat(w.ports, w.texts)
		c := constants{ints: poolOf(w.ints), texts: pooled(texts, func() []string { return letters(texts) })}
		if !c.ints.isTooGreat() {
			yield(c)
			return
		}
		for c.digitBits = 1; c.digitBits <= maxDigitBits; c.digitBits++ {
			c.ints = pooled(w.ints, func() []int64 { return digits(c.digitBits) })
			if !yield(c) {
				return
			}
		}
	}
}

// digits: those below 0, too, for the first digit of an integer; the least one is the base, but for its sign.
func digits(bits int) []int64 {
	var list []int64
	for n := int64(-1) << bits; n < 1<<bits; n++ {
		list = append(list, n)
	}
	return list
}

// letters: those of all these texts, and none.
func letters(texts []string) []string {
	list := []string{""}
	for _, s := range texts {
		for i := range len(s) {
			list = append(list, s[i:i+1])
		}
	}
	return list
}

// newTexts: what is answered shares no memory with the tree.
func newTexts(texts []string) []string {
	var list []string
	for _, s := range texts {
		list = append(list, strings.Clone(s))
	}
	return list
}

// number gives d an integer, if need be digit by digit: low - high * -base.
func (f *function) number(n int64, d int) {
	if k, isThere := f.constants.ints.numbers[n]; isThere {
		f.do(api.Op{Code: api.IInt, D: d, K: k})
		return
	}
	minusBase := int64(-1) << f.constants.digitBits
	high, low := n>>f.constants.digitBits, n&^minusBase
	f.number(high, d)
	other := f.fresh()
	f.number(minusBase, other)
	f.do(api.Op{Code: api.IWMul, D: d, A: d, B: other})
	f.number(low, other)
	f.do(api.Op{Code: api.IWSub, D: d, A: other, B: d})
	f.release(other)
}

// text gives d a text, if need be letter by letter behind the longest beginning that there is.
func (f *function) text(s string, d int) {
	if k, isThere := f.constants.texts.numbers[s]; isThere {
		f.do(api.Op{Code: api.IText, D: d, K: k})
		return
	}
	cut := len(s) - 1
	f.text(s[:cut], d)
	letter := f.fresh()
	f.text(s[cut:], letter)
	f.do(api.Op{Code: api.ICat, D: d, A: d, B: letter})
	f.release(letter)
}

// port: a port's name can't be made: there must be a constant.
func (f *function) port(name string) int {
	k, isThere := f.constants.texts.numbers[name]
	if !isThere {
		f.lacks = true
	}
	return k
}
