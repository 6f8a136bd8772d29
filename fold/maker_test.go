package fold_test

import (
	"math"
	"math/rand"
	"slices"
	"strings"

	"windlass/api"
)

// maker makes units by chance that are taken, and what they are run on.
type maker struct {
	*rand.Rand
	isDense bool // blocks are long, and nearly all of them constants and operations
}

// writer writes a function or a handler by chance. Each register has one type from the beginning to the end, so that any instruction may stand anywhere.
type writer struct {
	maker
	unit   *api.Unit
	fn     int // which function; a handler's is behind all of them
	result api.Type
	types  []api.Type
	ops    []api.Op
	isCalm bool // few instructions trap
}

// unit: all functions and handlers by chance.
func (k maker) unit() api.Unit {
	u := api.Unit{Program: program()}
	u.Ints = []int64{0, 1, 2, 3, -1, 7, 1000, math.MaxInt64, math.MinInt64, 1 << 32, 3}
	u.Texts = []string{"", "a", "b", "port", strings.Repeat("c", 20), strings.Repeat("d", 33), strings.Repeat("e", 64), "a"}
	isCalm := k.Intn(3) > 0
	if k.isDense {
		u.Ints = append(u.Ints, 11, 23, 47, 95, 191, 383, 767, -5, -9, -17)
	}
	for fn, sig := range u.Program.Funcs {
		u.Funcs = append(u.Funcs, k.graph(&u, fn, sig, isCalm))
	}
	for _, sig := range u.Program.Events {
		u.Events = append(u.Events, k.graph(&u, fnCount, sig, isCalm))
	}
	return u
}

func (k maker) graph(u *api.Unit, fn int, sig api.Sig, isCalm bool) api.Graph {
	w := &writer{maker: k, unit: u, fn: fn, result: sig.Result, isCalm: isCalm}
	w.types = slices.Concat(sig.Params, slices.Repeat([]api.Type{intType, textType, boolType}, 3), []api.Type{intType, intType, pair, pair})
	blocks := make([]api.Block, 1+k.Intn(6))
	var heads []int
	for i := range blocks {
		w.ops = nil
		if i == 0 || k.Intn(2) == 0 {
			heads = append(heads, i)
			w.add(op(api.ICharge))
		}
		if i == 0 {
			w.begin(len(sig.Params))
		}
		w.row(w.length())
		blocks[i] = w.end(i, len(blocks), heads)
	}
	for range k.Intn(2) * k.Intn(3) {
		blocks = append(blocks, w.junk(heads))
	}
	return graph(len(w.types), blocks...)
}

func (w *writer) length() int {
	if w.isDense {
		return 30 + w.Intn(30)
	}
	return w.Intn(12)
}

func (w *writer) add(o api.Op) { w.ops = append(w.ops, o) }

// begin: each register has a value of its type; records behind all that they may be made of.
func (w *writer) begin(first int) {
	for _, isRecord := range []bool{false, true} {
		for d := first; d < len(w.types); d++ {
			if (w.types[d].Kind == api.Record) == isRecord {
				w.fill(d)
			}
		}
	}
}

// fill: by a constant, or a record of what is there.
func (w *writer) fill(d int) {
	switch w.types[d].Kind {
	case api.Int:
		w.add(op(api.IInt, d, 0, 0, w.number(len(w.unit.Ints))))
	case api.Text:
		w.add(op(api.IText, d, 0, 0, w.number(len(w.unit.Texts))))
	case api.Bool:
		w.add(be(d, w.Intn(2)))
	default:
		w.add(op(api.IMake, d, w.pairAt(), 0, 0))
	}
}

// number: of a constant; if it is calm, a small one.
func (w *writer) number(count int) int {
	if w.isCalm && w.Intn(20) > 0 {
		return w.Intn(count / 2)
	}
	return w.Intn(count)
}

// used: some register of this type.
func (w *writer) used(t api.Type) int {
	for {
		if r := w.Intn(len(w.types)); w.types[r] == t {
			return r
		}
	}
}

// pairAt: where an integer stands ahead of a text.
func (w *writer) pairAt() int {
	for {
		if r := w.used(intType); r+1 < len(w.types) && w.types[r+1] == textType {
			return r
		}
	}
}

// intsAt: where two integers stand.
func (w *writer) intsAt() int {
	for {
		if r := w.used(intType); r+1 < len(w.types) && w.types[r+1] == intType {
			return r
		}
	}
}

// row: instructions, many of them constants.
func (w *writer) row(count int) {
	for range count {
		n := w.Intn(20)
		if w.isDense && n < 18 {
			n = []int{0, 9}[n%2]
		}
		switch {
		case n < 7:
			w.fill(w.Intn(len(w.types)))
		case n < 8:
			w.add(op(api.IEnter))
			w.row(w.Intn(3))
			w.add(op(api.ILeave))
		case n < 9:
			w.add(op(api.ICharge))
		case n < 15:
			w.reckoning()
		default:
			w.doing()
		}
	}
}

// reckoning: an instruction of IMove to IStr.
func (w *writer) reckoning() {
	code := reckonedCodes[w.Intn(len(reckonedCodes))]
	if w.isCalm && (code == api.IDiv || code == api.IMod || code == api.ICat) && w.Intn(6) > 0 {
		code = api.IMove
	}
	some := []api.Type{intType, textType, boolType}[w.Intn(3)]
	switch code {
	case api.IMove:
		some = w.types[w.Intn(len(w.types))]
		w.add(move(w.used(some), w.used(some)))
	case api.ICat:
		w.add(op(code, w.used(textType), w.used(textType), w.used(textType)))
	case api.IEq, api.INe:
		w.add(op(code, w.used(boolType), w.used(some), w.used(some)))
	case api.ILt, api.ILe, api.IGt, api.IGe:
		some = []api.Type{intType, textType}[w.Intn(2)]
		w.add(op(code, w.used(boolType), w.used(some), w.used(some)))
	case api.INeg:
		w.add(op(code, w.used(intType), w.used(intType)))
	case api.INot:
		w.add(op(code, w.used(boolType), w.used(boolType)))
	case api.ILen:
		w.add(op(code, w.used(intType), w.used(textType)))
	case api.IStr:
		w.add(op(code, w.used(textType), w.used(intType)))
	default:
		w.add(op(code, w.used(intType), w.used(intType), w.used(intType)))
	}
}

// doing: any other instruction that isn't a constant.
func (w *writer) doing() {
	m := w.Intn(mapCount)
	key, v := w.unit.Program.Maps[m].Key, w.unit.Program.Maps[m].Value
	switch code := api.IMake + w.Intn(api.IAfter-api.IMake+1); code {
	case api.IMake:
		w.fill(w.used(pair))
	case api.IField:
		field := w.Intn(2)
		w.add(op(code, w.used([]api.Type{intType, textType}[field]), w.used(pair), 0, field))
	case api.IGet:
		w.add(op(code, w.used(v), w.used(key), 0, m))
	case api.IHas:
		w.add(op(code, w.used(boolType), w.used(key), 0, m))
	case api.IPut:
		w.add(op(code, 0, w.used(key), w.used(v), m))
	case api.IDel:
		w.add(op(code, 0, w.used(key), 0, m))
	case api.INext:
		w.add(op(code, w.used(boolType), w.used(key), w.used(boolType), m))
	case api.ICall:
		w.call()
	case api.IAsk:
		w.add(op(code, w.used(textType), w.used(textType), 0, w.Intn(len(w.unit.Texts))))
	case api.IEmit:
		w.add(op(code, 0, w.used(textType)))
	case api.IAfter:
		w.after()
	}
}

// call: seldom of a function that isn't further on.
func (w *writer) call() {
	k := w.Intn(fnCount)
	if k <= w.fn && w.fn < fnCount && w.Intn(3) > 0 {
		return
	}
	at := []func() int{w.intsAt, func() int { return w.used(textType) }, func() int { return 0 }, func() int { return 0 }}[k]()
	d := -1
	if result := w.unit.Program.Funcs[k].Result; result != noType && w.Intn(4) > 0 {
		d = w.used(result)
	}
	w.add(op(api.ICall, d, at, 0, k))
}

// after: often with a delay that may be.
func (w *writer) after() {
	delay := w.used(intType)
	if w.Intn(3) > 0 {
		w.add(op(api.IInt, delay, 0, 0, 1))
	}
	if w.isCalm && w.Intn(3) > 0 {
		return
	}
	k := 1 + w.Intn(eventCount-1)
	w.add(op(api.IAfter, 0, delay, w.used(w.unit.Program.Events[k].Params[0]), k))
}

// end: of block at; seldom back to one that begins with a charge.
func (w *writer) end(at, count int, heads []int) api.Block {
	onward := func() int {
		if w.Intn(6) == 0 {
			return heads[w.Intn(len(heads))]
		}
		return at + 1 + w.Intn(count-at-1)
	}
	if at == count-1 || w.Intn(12) == 0 {
		if w.result == noType {
			return ret(-1, w.ops...)
		}
		return ret(w.used(w.result), w.ops...)
	}
	if w.Intn(3) == 0 {
		return jump(at+1+w.Intn(count-at-1), w.ops...)
	}
	return unless(w.used(boolType), onward(), onward(), w.ops...)
}

// junk: a block to which nothing comes; its registers have any types.
func (w *writer) junk(heads []int) api.Block {
	w.ops = nil
	types := w.types
	w.types = slices.Clone(types)
	w.Shuffle(len(types), func(i, j int) { w.types[i], w.types[j] = w.types[j], w.types[i] })
	for range 2 + w.Intn(12) {
		if w.Intn(3) == 0 {
			w.add([]api.Op{op(api.IInt, w.Intn(3), 0, 0, w.Intn(3)), op(api.IText, w.Intn(3), 0, 0, w.Intn(3)), be(w.Intn(3), w.Intn(2))}[w.Intn(3)])
			continue
		}
		w.reckoning()
		o := &w.ops[len(w.ops)-1]
		o.D, o.A = w.Intn(3), w.Intn(3)
		if _, isOfTwo := operands(o.Code); isOfTwo {
			o.B = w.Intn(3)
		}
	}
	w.types = types
	if w.Intn(2) == 0 {
		return jump(heads[w.Intn(len(heads))], w.ops...)
	}
	return ret(w.Intn(len(w.types)+1)-1, w.ops...)
}

// value: of a type.
func (k maker) value(t api.Type) api.Value {
	switch t.Kind {
	case api.Int:
		return numbered([]int64{int64(k.Intn(5)) - 2, int64(k.Intn(50)), edges[k.Intn(len(edges))]}[k.Intn(3)])
	case api.Text:
		return texted([]string{"", "a", "k101", strings.Repeat("f", k.Intn(65))}[k.Intn(4)])
	case api.Bool:
		return truth(k.Intn(2) == 0)
	}
	return api.Value{Kind: api.Record, Fields: []api.Value{k.value(intType), k.value(textType)}}
}

// run: of e mostly.
func (k maker) run() run {
	r := run{state: filled([]int{0, 3, 12, 24}[k.Intn(4)]), waiting: k.Intn(20) - 8}
	sig := program().Events[k.Intn(eventCount)*k.Intn(2)]
	r.event = api.Event{Name: sig.Name}
	for _, t := range sig.Params {
		r.event.Args = append(r.event.Args, k.value(t))
	}
	for range k.Intn(7) {
		r.answers = append(r.answers, k.value(textType).Text)
	}
	if k.Intn(8) == 0 {
		r.answers = append(r.answers, strings.Repeat("g", 65))
	}
	return r
}
