package inline_test

import (
	"math"
	"math/rand"
	"slices"
	"strings"

	"windlass/api"
)

// maker makes units by chance that are taken, and what they are run on.
type maker struct{ *rand.Rand }

// writer writes a function or a handler by chance. Its first registers have one type each from the beginning to the end, so that they may be used anywhere; the others are used in the block alone in which they were given, and are of any type.
type writer struct {
	maker
	unit    *api.Unit
	fn      int // which function; a handler's is behind all of them
	result  api.Type
	types   []api.Type // what each register is now
	kept    int        // how many of them have one type
	ops     []api.Op
	deep    int  // open calls
	isCalm  bool // few instructions trap
	isShort bool // few instructions call
}

const loose = 5 // registers of any type

// unit: all functions and handlers by chance; most functions are small.
func (k maker) unit() api.Unit {
	u := api.Unit{Program: program()}
	u.Ints = []int64{0, 1, 2, 3, -1, 7, 1000, math.MaxInt64, math.MinInt64, 1 << 32, 3}
	u.Texts = []string{"", "a", "b", "port", strings.Repeat("c", 20), strings.Repeat("d", 33), strings.Repeat("e", 64), "a"}
	isCalm := k.Intn(4) > 0
	for fn, sig := range u.Program.Funcs {
		write := k.graph
		if fn < smallCount && k.Intn(6) > 0 {
			write = k.short
		}
		u.Funcs = append(u.Funcs, write(&u, fn, sig, isCalm))
	}
	for _, sig := range u.Program.Events {
		u.Events = append(u.Events, k.graph(&u, fnCount, sig, isCalm))
	}
	return u
}

func (k maker) graph(u *api.Unit, fn int, sig api.Sig, isCalm bool) api.Graph {
	w := &writer{maker: k, unit: u, fn: fn, result: sig.Result, isCalm: isCalm}
	few := []api.Type{intType, textType, boolType}
	w.types = slices.Concat(sig.Params, few, few, []api.Type{pair, intType, intType, pair})
	if k.Intn(3) == 0 {
		w.types = append(w.types, slices.Repeat([]api.Type{intType}, api.MaxItems)...)
	}
	w.kept = len(w.types)
	w.types = append(w.types, make([]api.Type, loose)...)
	blocks := make([]api.Block, 1+k.Intn(8))
	var heads []int
	for i := range blocks {
		w.ops = nil
		clear(w.types[w.kept:])
		if i == 0 || k.Intn(2) == 0 {
			heads = append(heads, i)
			w.add(op(api.ICharge))
		}
		if i == 0 {
			w.begin(len(sig.Params))
		}
		w.row(w.Intn(10))
		blocks[i] = w.end(i, len(blocks), heads)
	}
	for range k.Intn(2) * k.Intn(3) {
		blocks = append(blocks, w.junk(heads))
	}
	if k.Intn(5) == 0 {
		return graph(max(len(w.types), api.MaxRegs-k.Intn(16)), blocks...)
	}
	return graph(len(w.types), blocks...)
}

// short: a function of one block and few instructions; sometimes one too many, or one for which it isn't small.
func (k maker) short(u *api.Unit, fn int, sig api.Sig, isCalm bool) api.Graph {
	w := &writer{maker: k, unit: u, fn: fn, result: sig.Result, isCalm: isCalm, isShort: true}
	w.types = append(slices.Clone(sig.Params), make([]api.Type, loose)...)
	w.kept = len(sig.Params)
	w.add(op(api.ICharge))
	w.row(w.Intn(7))
	result := -1
	if w.result != noType {
		w.have(w.result)
		result = w.used(w.result)
	}
	if len(w.ops) > 7 && k.Intn(4) > 0 {
		return k.short(u, fn, sig, isCalm)
	}
	return graph(len(w.types), ret(result, w.ops...))
}

// have: some register has this type.
func (w *writer) have(t api.Type) {
	if slices.Contains(w.types, t) {
		return
	}
	if t == pair {
		w.fill(w.kept, intType)
		w.fill(w.kept+1, textType)
	}
	w.fill(w.kept+2, t)
}

func (w *writer) add(o api.Op) { w.ops = append(w.ops, o) }

// begin: each register that has one type has a value; records behind all that they may be made of.
func (w *writer) begin(first int) {
	for _, isRecord := range []bool{false, true} {
		for d := first; d < w.kept; d++ {
			if (w.types[d].Kind == api.Record) == isRecord {
				w.fill(d, w.types[d])
			}
		}
	}
}

// fill: by a constant, or a record of what is there.
func (w *writer) fill(d int, t api.Type) {
	switch t.Kind {
	case api.Int:
		w.add(op(api.IInt, d, 0, 0, w.number(len(w.unit.Ints))))
	case api.Text:
		w.add(op(api.IText, d, 0, 0, w.number(len(w.unit.Texts))))
	case api.Bool:
		w.add(be(d, w.Intn(2)))
	default:
		w.add(op(api.IMake, d, w.rowOf(intType, textType), 0, 0))
	}
	w.types[d] = t
}

// number: of a constant; if it is calm, a small one.
func (w *writer) number(count int) int {
	if w.isCalm && w.Intn(20) > 0 {
		return w.Intn(count / 2)
	}
	return w.Intn(count)
}

// stuck: no registers of the types that are needed.
type stuck struct{}

// attempt: instructions that are left out if they need registers that aren't there.
func (w *writer) attempt(write func()) {
	count, types, deep := len(w.ops), slices.Clone(w.types), w.deep
	defer func() {
		switch x := recover().(type) {
		case nil:
		case stuck:
			w.ops, w.types, w.deep = w.ops[:count], types, deep
		default:
			panic(x)
		}
	}()
	write()
}

// used: some register of this type.
func (w *writer) used(t api.Type) int { return w.rowOf(t) }

// rowOf: where registers of these types stand one behind the other.
func (w *writer) rowOf(types ...api.Type) int {
	var list []int
	for r := range len(w.types) - len(types) + 1 {
		if slices.Equal(w.types[r:r+len(types)], types) {
			list = append(list, r)
		}
	}
	if len(list) == 0 {
		panic(stuck{})
	}
	return list[w.Intn(len(list))]
}

// give: the instruction gives some register this type; what it uses stands in its other fields.
func (w *writer) give(o api.Op, t api.Type) {
	o.D = w.kept + w.Intn(loose)
	if w.Intn(3) > 0 && slices.Contains(w.types, t) {
		o.D = w.used(t)
	}
	w.types[o.D] = t
	w.add(o)
}

func (w *writer) anyType() api.Type { return []api.Type{intType, textType, boolType, pair}[w.Intn(4)] }

func (w *writer) row(count int) {
	for range count {
		w.attempt(w.one)
	}
}

func (w *writer) one() {
	switch n := w.Intn(24); {
	case n < 4:
		w.fill(w.kept+w.Intn(loose), w.anyType())
	case n < 6:
		d := w.used(w.anyType())
		w.fill(d, w.types[d])
	case n < 7:
		w.open(1 + w.Intn(3))
	case n < 8:
		w.add(op(api.ICharge))
	case n < 14:
		w.reckoning()
	case n < 19 && !w.isShort:
		w.call()
	default:
		w.doing()
	}
}

// open: instructions while calls are open, seldom as many as may be.
func (w *writer) open(count int) {
	deep := 1
	if w.Intn(4) == 0 {
		deep = api.MaxCalls - w.deep - w.Intn(2)
	}
	if deep < 1 || w.deep+deep > api.MaxCalls || w.isShort && w.Intn(3) > 0 {
		return
	}
	w.deep += deep
	w.ops = append(w.ops, slices.Repeat([]api.Op{op(api.IEnter)}, deep)...)
	w.row(count)
	w.ops = append(w.ops, slices.Repeat([]api.Op{op(api.ILeave)}, deep)...)
	w.deep -= deep
}

// reckoning: an instruction of IMove to IStr.
func (w *writer) reckoning() {
	code := api.IMove + w.Intn(api.IStr-api.IMove+1)
	if w.isCalm && slices.Contains([]int{api.IAdd, api.IMul, api.IDiv, api.IMod, api.ICat, api.INeg}, code) && w.Intn(5) > 0 {
		code = api.IMove
	}
	some := w.anyType()
	switch code {
	case api.IMove:
		w.give(op(code, 0, w.used(some)), some)
	case api.ICat:
		w.give(op(code, 0, w.used(textType), w.used(textType)), textType)
	case api.IEq, api.INe:
		some = []api.Type{intType, textType, boolType}[w.Intn(3)]
		w.give(op(code, 0, w.used(some), w.used(some)), boolType)
	case api.ILt, api.ILe, api.IGt, api.IGe:
		some = []api.Type{intType, textType}[w.Intn(2)]
		w.give(op(code, 0, w.used(some), w.used(some)), boolType)
	case api.INeg:
		w.give(op(code, 0, w.used(intType)), intType)
	case api.INot:
		w.give(op(code, 0, w.used(boolType)), boolType)
	case api.ILen:
		w.give(op(code, 0, w.used(textType)), intType)
	case api.IStr:
		w.give(op(code, 0, w.used(intType)), textType)
	default:
		w.give(op(code, 0, w.used(intType), w.used(intType)), intType)
	}
}

// doing: any other instruction that isn't a constant.
func (w *writer) doing() {
	m := w.Intn(mapCount)
	key, v := w.unit.Program.Maps[m].Key, w.unit.Program.Maps[m].Value
	switch code := api.IMake + w.Intn(api.IAfter-api.IMake+1); code {
	case api.IMake:
		w.give(op(code, 0, w.rowOf(intType, textType), 0, 0), pair)
	case api.IField:
		field := w.Intn(2)
		w.give(op(code, 0, w.used(pair), 0, field), []api.Type{intType, textType}[field])
	case api.IGet:
		w.give(op(code, 0, w.used(key), 0, m), v)
	case api.IHas:
		w.give(op(code, 0, w.used(key), 0, m), boolType)
	case api.IPut:
		w.add(op(code, 0, w.used(key), w.used(v), m))
	case api.IDel:
		w.add(op(code, 0, w.used(key), 0, m))
	case api.INext:
		w.next(m, key)
	case api.ICall:
		w.call()
	case api.IAsk:
		w.give(op(code, 0, w.used(textType), 0, w.Intn(len(w.unit.Texts))), textType)
	case api.IEmit:
		w.add(op(code, 0, w.used(textType)))
	case api.IAfter:
		w.after()
	}
}

// next: where the key is D, too, nothing is known of it behind that.
func (w *writer) next(m int, key api.Type) {
	a := w.used(key)
	w.give(op(api.INext, 0, a, w.used(boolType), m), boolType)
	if d := w.ops[len(w.ops)-1].D; d == a {
		w.types[d] = noType
	}
}

// call: seldom from one that is to be small, or of a function that may well call another one.
func (w *writer) call() {
	k := w.Intn(fnCount)
	if w.isShort && w.Intn(3) > 0 || k >= smallCount && w.fn < fnCount && w.Intn(3) > 0 {
		return
	}
	sig := w.unit.Program.Funcs[k]
	o := op(api.ICall, -1, w.rowOf(sig.Params...), 0, k)
	if sig.Result == noType || w.Intn(4) == 0 {
		w.add(o)
		return
	}
	w.give(o, sig.Result)
}

// after: often with a delay that may be.
func (w *writer) after() {
	delay := w.used(intType)
	if w.Intn(3) > 0 {
		w.add(op(api.IInt, delay, 0, 0, 1))
	}
	k := w.Intn(eventCount)
	w.add(op(api.IAfter, 0, delay, w.rowOf(w.unit.Program.Events[k].Params...), k))
}

// end: of block at; seldom back to one that begins with a charge, often by a truth that is known.
func (w *writer) end(at, count int, heads []int) api.Block {
	onward := func() int {
		if w.Intn(6) == 0 {
			return heads[w.Intn(len(heads))]
		}
		return at + 1 + w.Intn(count-at-1)
	}
	if at == count-1 || w.Intn(12) == 0 {
		if w.result == noType {
			return ret(-1, w.ops...)
		}
		return ret(w.used(w.result), w.ops...)
	}
	if w.Intn(3) == 0 {
		return jump(at+1+w.Intn(count-at-1), w.ops...)
	}
	a := w.used(boolType)
	if w.Intn(3) == 0 {
		w.add(be(a, w.Intn(2)))
		w.row(w.Intn(4))
		if w.types[a] != boolType {
			a = w.used(boolType)
		}
	}
	return unless(a, onward(), onward(), w.ops...)
}

// junk: a block to which nothing comes; its registers have any types.
func (w *writer) junk(heads []int) api.Block {
	w.ops = nil
	w.row(2 + w.Intn(12))
	for i := range w.ops {
		if o := &w.ops[i]; o.Code == api.ICall || strings.Contains(fields(o.Code), "D") {
			o.D = w.Intn(len(w.types))
		}
	}
	if w.Intn(2) == 0 {
		return jump(heads[w.Intn(len(heads))], w.ops...)
	}
	return ret(w.Intn(len(w.types)+1)-1, w.ops...)
}

// value: of a type.
func (k maker) value(t api.Type) api.Value {
	switch t.Kind {
	case api.Int:
		return numbered([]int64{int64(k.Intn(5)) - 2, int64(k.Intn(50)), []int64{math.MinInt64, math.MaxInt64, 1 << 32, -1 << 62}[k.Intn(4)]}[k.Intn(3)])
	case api.Text:
		return texted([]string{"", "a", "k101", strings.Repeat("f", k.Intn(65))}[k.Intn(4)])
	case api.Bool:
		return truth(k.Intn(2) == 0)
	}
	return api.Value{Kind: api.Record, Fields: []api.Value{k.value(intType), k.value(textType)}}
}

// run: of e mostly.
func (k maker) run() run {
	r := run{state: filled([]int{0, 3, 12, 24}[k.Intn(4)]), waiting: k.Intn(20) - 8}
	sig := program().Events[k.Intn(eventCount)*k.Intn(2)]
	r.event = api.Event{Name: sig.Name}
	for _, t := range sig.Params {
		r.event.Args = append(r.event.Args, k.value(t))
	}
	for range k.Intn(7) {
		r.answers = append(r.answers, k.value(textType).Text)
	}
	if k.Intn(8) == 0 {
		r.answers = append(r.answers, strings.Repeat("g", 65))
	}
	return r
}
