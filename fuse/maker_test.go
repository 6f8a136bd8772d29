package fuse_test

import (
	"math"
	"math/rand"
	"slices"
	"strings"

	"windlass/api"
)

// maker makes units by chance that are taken, and what they are run on.
type maker struct{ *rand.Rand }

// writer writes a function or a handler by chance. Its first registers have one type each from the beginning to the end, so that they may be used anywhere; the others are used in the block alone in which they were given, and are of any type.
type writer struct {
	maker
	unit   *api.Unit
	fn     int // which function; a handler's is behind all of them
	result api.Type
	types  []api.Type // what each register is now
	kept   int        // how many of them have one type
	ops    []api.Op
	deep   int  // open calls
	isCalm bool // few instructions trap
}

const loose = 5 // registers of any type

// unit: all functions and handlers by chance.
func (k maker) unit() api.Unit {
	u := api.Unit{Program: program()}
	u.Ints = []int64{0, 1, 2, 3, -1, 7, 1000, math.MaxInt64, math.MinInt64, 1 << 32, 3}
	u.Texts = []string{"", "a", "b", "port", strings.Repeat("c", 20), strings.Repeat("d", 33), strings.Repeat("e", 64), "a"}
	isCalm := k.Intn(4) > 0
	for fn, sig := range u.Program.Funcs {
		u.Funcs = append(u.Funcs, k.graph(&u, fn, sig, isCalm))
	}
	for _, sig := range u.Program.Events {
		u.Events = append(u.Events, k.graph(&u, fnCount, sig, isCalm))
	}
	return u
}

func (k maker) graph(u *api.Unit, fn int, sig api.Sig, isCalm bool) api.Graph {
	w := &writer{maker: k, unit: u, fn: fn, result: sig.Result, isCalm: isCalm}
	w.types = slices.Concat(sig.Params, slices.Repeat([]api.Type{intType, textType, boolType}, 2), []api.Type{intType, intType, pair, pair}, make([]api.Type, loose))
	w.kept = len(w.types) - loose
	blocks := make([]api.Block, 1+k.Intn(8))
	var heads []int
	for i := range blocks {
		w.ops = nil
		clear(w.types[w.kept:])
		if i == 0 || k.Intn(2) == 0 {
			heads = append(heads, i)
			w.add(op(api.ICharge))
		}
		if i == 0 {
			w.begin(len(sig.Params))
		}
		w.row(w.Intn(10))
		blocks[i] = w.end(i, len(blocks), heads)
	}
	for range k.Intn(2) * k.Intn(3) {
		blocks = append(blocks, w.junk(heads))
	}
	return graph(len(w.types), blocks...)
}

func (w *writer) add(o api.Op) { w.ops = append(w.ops, o) }

// begin: each register that has one type has a value; records behind all that they may be made of.
func (w *writer) begin(first int) {
	for _, isRecord := range []bool{false, true} {
		for d := first; d < w.kept; d++ {
			if (w.types[d].Kind == api.Record) == isRecord {
				w.fill(d, w.types[d])
			}
		}
	}
}

// fill: by a constant, or a record of what is there.
func (w *writer) fill(d int, t api.Type) {
	switch t.Kind {
	case api.Int:
		w.add(op(api.IInt, d, 0, 0, w.number(len(w.unit.Ints))))
	case api.Text:
		w.add(op(api.IText, d, 0, 0, w.number(len(w.unit.Texts))))
	case api.Bool:
		w.add(be(d, w.Intn(2)))
	default:
		w.add(op(api.IMake, d, w.rowOf(intType, textType), 0, 0))
	}
	w.types[d] = t
}

// number: of a constant; if it is calm, a small one.
func (w *writer) number(count int) int {
	if w.isCalm && w.Intn(20) > 0 {
		return w.Intn(count / 2)
	}
	return w.Intn(count)
}

// used: some register of this type.
func (w *writer) used(t api.Type) int {
	for {
		if r := w.Intn(len(w.types)); w.types[r] == t {
			return r
		}
	}
}

// rowOf: where registers of these types stand one behind the other.
func (w *writer) rowOf(types ...api.Type) int {
	for {
		if r := w.Intn(len(w.types)); r+len(types) <= len(w.types) && slices.Equal(w.types[r:r+len(types)], types) {
			return r
		}
	}
}

// give: the instruction gives some register this type; what it uses stands in its other fields.
func (w *writer) give(o api.Op, t api.Type) {
	o.D = w.kept + w.Intn(loose)
	if w.Intn(3) > 0 {
		o.D = w.used(t)
	}
	w.types[o.D] = t
	w.add(o)
}

func (w *writer) anyType() api.Type { return []api.Type{intType, textType, boolType, pair}[w.Intn(4)] }

func (w *writer) row(count int) {
	for range count {
		switch n := w.Intn(20); {
		case n < 4:
			w.fill(w.kept+w.Intn(loose), w.anyType())
		case n < 6:
			d := w.Intn(w.kept)
			w.fill(d, w.types[d])
		case n < 7:
			w.open(w.Intn(3))
		case n < 8:
			w.add(op(api.ICharge))
		case n < 12:
			w.reckoning()
		case n < 16:
			w.read(w.Intn(mapCount))
		default:
			w.doing()
		}
	}
}

// open: instructions while calls are open, seldom as many as may be.
func (w *writer) open(count int) {
	deep := 1
	if w.deep == 0 && w.Intn(6) == 0 {
		deep = api.MaxCalls
	}
	if w.deep+deep > api.MaxCalls {
		return
	}
	w.deep += deep
	w.ops = append(w.ops, slices.Repeat([]api.Op{op(api.IEnter)}, deep)...)
	w.row(count)
	w.ops = append(w.ops, slices.Repeat([]api.Op{op(api.ILeave)}, deep)...)
	w.deep -= deep
}

// reckoning: an instruction of IMove to IStr.
func (w *writer) reckoning() {
	code := api.IMove + w.Intn(api.IStr-api.IMove+1)
	if w.isCalm && slices.Contains([]int{api.IAdd, api.IMul, api.IDiv, api.IMod, api.ICat, api.INeg}, code) && w.Intn(5) > 0 {
		code = api.IMove
	}
	some := w.anyType()
	switch code {
	case api.IMove:
		w.give(op(code, 0, w.used(some)), some)
	case api.ICat:
		w.give(op(code, 0, w.used(textType), w.used(textType)), textType)
	case api.IEq, api.INe:
		some = []api.Type{intType, textType, boolType}[w.Intn(3)]
		w.give(op(code, 0, w.used(some), w.used(some)), boolType)
	case api.ILt, api.ILe, api.IGt, api.IGe:
		some = []api.Type{intType, textType}[w.Intn(2)]
		w.give(op(code, 0, w.used(some), w.used(some)), boolType)
	case api.INeg:
		w.give(op(code, 0, w.used(intType)), intType)
	case api.INot:
		w.give(op(code, 0, w.used(boolType)), boolType)
	case api.ILen:
		w.give(op(code, 0, w.used(textType)), intType)
	case api.IStr:
		w.give(op(code, 0, w.used(intType)), textType)
	default:
		w.give(op(code, 0, w.used(intType), w.used(intType)), intType)
	}
}

// doing: any other instruction that isn't a constant.
func (w *writer) doing() {
	m := w.Intn(mapCount)
	key, v := w.unit.Program.Maps[m].Key, w.unit.Program.Maps[m].Value
	switch code := api.IMake + w.Intn(api.IAfter-api.IMake+1); code {
	case api.IMake:
		w.give(op(code, 0, w.rowOf(intType, textType), 0, 0), pair)
	case api.IField:
		field := w.Intn(2)
		w.give(op(code, 0, w.used(pair), 0, field), []api.Type{intType, textType}[field])
	case api.IGet:
		w.read(m)
	case api.IHas:
		w.give(op(code, 0, w.used(key), 0, m), boolType)
	case api.IPut:
		w.add(op(code, 0, w.used(key), w.used(v), m))
	case api.IDel:
		w.add(op(code, 0, w.used(key), 0, m))
	case api.INext:
		w.next(m, key)
	case api.ICall:
		w.call()
	case api.IAsk:
		w.give(op(code, 0, w.used(textType), 0, w.Intn(len(w.unit.Texts))), textType)
	case api.IEmit:
		w.add(op(code, 0, w.used(textType)))
	case api.IAfter:
		w.after()
	}
}

// read: mostly of what was read in this block, whatever came to be of it.
func (w *writer) read(m int) {
	a := w.used(w.unit.Program.Maps[m].Key)
	for _, o := range w.ops {
		if o.Code == api.IGet && w.types[o.A] == w.unit.Program.Maps[o.K].Key && w.Intn(2) == 0 {
			a, m = o.A, o.K
		}
	}
	w.give(get(0, a, m), w.unit.Program.Maps[m].Value)
}

// next: where the key is D, too, nothing is known of it behind that.
func (w *writer) next(m int, key api.Type) {
	a := w.used(key)
	w.give(op(api.INext, 0, a, w.used(boolType), m), boolType)
	if d := w.ops[len(w.ops)-1].D; d == a {
		w.types[d] = noType
	}
}

// call: seldom of a function that isn't further on.
func (w *writer) call() {
	k := w.Intn(fnCount)
	if k <= w.fn && w.fn < fnCount && w.Intn(3) > 0 {
		return
	}
	sig := w.unit.Program.Funcs[k]
	o := op(api.ICall, -1, w.rowOf(sig.Params...), 0, k)
	if sig.Result == noType || w.Intn(4) == 0 {
		w.add(o)
		return
	}
	w.give(o, sig.Result)
}

// after: often with a delay that may be.
func (w *writer) after() {
	delay := w.used(intType)
	if w.Intn(3) > 0 {
		w.add(op(api.IInt, delay, 0, 0, 1))
	}
	k := w.Intn(eventCount)
	w.add(op(api.IAfter, 0, delay, w.rowOf(w.unit.Program.Events[k].Params...), k))
}

// end: of block at; seldom back to one that begins with a charge, often by a truth that is known.
func (w *writer) end(at, count int, heads []int) api.Block {
	onward := func() int {
		if w.Intn(6) == 0 {
			return heads[w.Intn(len(heads))]
		}
		return at + 1 + w.Intn(count-at-1)
	}
	if at == count-1 || w.Intn(12) == 0 {
		if w.result == noType {
			return ret(-1, w.ops...)
		}
		return ret(w.used(w.result), w.ops...)
	}
	if w.Intn(3) == 0 {
		return jump(at+1+w.Intn(count-at-1), w.ops...)
	}
	a := w.used(boolType)
	if w.Intn(3) == 0 {
		w.add(be(a, w.Intn(2)))
		w.row(w.Intn(4))
		if w.types[a] != boolType {
			a = w.used(boolType)
		}
	}
	return unless(a, onward(), onward(), w.ops...)
}

// junk: a block to which nothing comes; its registers have any types.
func (w *writer) junk(heads []int) api.Block {
	w.ops = nil
	w.row(2 + w.Intn(12))
	for i := range w.ops {
		if o := &w.ops[i]; givesAnew(*o, o.D) && o.D >= 0 {
			o.D = w.Intn(len(w.types))
		}
	}
	if w.Intn(2) == 0 {
		return jump(heads[w.Intn(len(heads))], w.ops...)
	}
	return ret(w.Intn(len(w.types)+1)-1, w.ops...)
}

// value: of a type.
func (k maker) value(t api.Type) api.Value {
	switch t.Kind {
	case api.Int:
		return numbered([]int64{int64(k.Intn(5)) - 2, int64(k.Intn(50)), []int64{math.MinInt64, math.MaxInt64, 1 << 32, -1 << 62}[k.Intn(4)]}[k.Intn(3)])
	case api.Text:
		return texted([]string{"", "a", "k101", strings.Repeat("f", k.Intn(65))}[k.Intn(4)])
	case api.Bool:
		return truth(k.Intn(2) == 0)
	}
	return api.Value{Kind: api.Record, Fields: []api.Value{k.value(intType), k.value(textType)}}
}

// run: of e mostly.
func (k maker) run() run {
	r := run{state: filled([]int{0, 3, 12, 24}[k.Intn(4)]), waiting: k.Intn(20) - 8}
	sig := program().Events[k.Intn(eventCount)*k.Intn(2)]
	r.event = api.Event{Name: sig.Name}
	for _, t := range sig.Params {
		r.event.Args = append(r.event.Args, k.value(t))
	}
	for range k.Intn(7) {
		r.answers = append(r.answers, k.value(textType).Text)
	}
	if k.Intn(8) == 0 {
		r.answers = append(r.answers, strings.Repeat("g", 65))
	}
	return r
}
