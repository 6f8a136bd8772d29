package vm_test

import (
	"math"
	"math/rand"
	"slices"
	"strconv"

	"windlass/api"
)

// maker makes codes by chance that are verified, events and answers for them.
type maker struct{ *rand.Rand }

// writer writes a function by chance. Each register has one type from the beginning to the end, so that any instruction may stand anywhere.
type writer struct {
	maker
	c      api.Code
	fn     int // which function; below 0: a handler
	result api.Type
	types  []api.Type
	// open: how many of the first registers are anything's, those behind them belong to loops.
	open   int
	height int
	ops    []api.Op
}

// Of the registers behind the open ones.
const (
	oneAt = iota
	zeroAt
	junkAt
	loopsAt
	perLoop = 5 // a counter, a key of each type, whether one was met, whether it goes on
	loops   = 2
)

// function: of a signature.
func (k maker) function(c api.Code, fn int, sig api.Sig) api.Fn {
	types := slices.Concat(sig.Params, c.Program.Records[2].Types, []api.Type{pair, wide, flag, intType, intType, textType, intType})
	w := &writer{maker: k, c: c, fn: fn, result: sig.Result, types: types, open: len(types)}
	w.types = append(w.types, intType, intType, noType)
	for range loops {
		w.types = append(w.types, intType, intType, textType, boolType, boolType)
	}
	w.add(charge())
	w.begin(len(sig.Params))
	w.statements(2+k.Intn(12), 0)
	w.end()
	return api.Fn{Regs: len(w.types), Ops: w.ops}
}

func (w *writer) add(o api.Op) { w.ops = append(w.ops, o) }

// begin: each open register has a value of its type.
func (w *writer) begin(first int) {
	// Records behind all that they may be made of.
	for _, isRecord := range []bool{false, true} {
		for d := first; d < w.open; d++ {
			if (w.types[d].Kind == api.Record) == isRecord {
				w.fill(d, w.types[d])
			}
		}
	}
	w.add(set(w.open+oneAt, one))
	w.add(set(w.open+zeroAt, zero))
}

func (w *writer) fill(d int, t api.Type) {
	switch t.Kind {
	case api.Int:
		w.add(set(d, w.Intn(len(w.c.Ints))))
	case api.Text:
		w.add(say(d, w.Intn(len(w.c.Texts))))
	case api.Bool:
		w.add(be(d, w.Intn(2)))
	default:
		w.add(op(api.IMake, d, w.row(w.c.Program.Records[t.Rec].Types), 0, t.Rec))
	}
}

// row: where registers of these types stand one behind the other.
func (w *writer) row(types []api.Type) int {
	var places []int
	for at := range w.open - len(types) + 1 {
		if slices.Equal(w.types[at:at+len(types)], types) {
			places = append(places, at)
		}
	}
	return places[w.Intn(len(places))]
}

func (w *writer) used(t api.Type) int { return w.row([]api.Type{t}) }

// given: a register of this type, or one that nobody reads.
func (w *writer) given(t api.Type) int {
	if w.Intn(12) == 0 {
		return w.open + junkAt
	}
	return w.used(t)
}

func (w *writer) end() {
	if w.result == noType {
		w.add(end())
		return
	}
	w.add(ret(w.used(w.result)))
}

func (w *writer) statements(count, depth int) {
	for range count {
		w.statement(depth)
	}
}

func (w *writer) statement(depth int) {
	if depth > 2 || w.Intn(4) > 0 {
		w.simple()
		return
	}
	switch n := w.Intn(12); {
	case n < 4:
		w.choice(depth)
	case n < 6:
		w.counted(depth)
	case n < 8:
		w.walked(depth)
	case n < 9 && w.height < 12:
		w.add(enter())
		w.height++
		w.statements(w.Intn(4), depth+1)
		w.height--
		w.add(leave())
	case n < 10 && w.height == 0 && depth > 0:
		w.end()
	case n < 11:
		w.add(charge())
	default:
		w.over(func() { w.statements(w.Intn(3), depth+1) })
	}
}

// over: what is written is never done.
func (w *writer) over(write func()) {
	at := len(w.ops)
	w.add(jump(0))
	write()
	w.ops[at].K = len(w.ops)
}

func (w *writer) choice(depth int) {
	at := len(w.ops)
	w.add(unless(w.used(boolType), 0))
	w.statements(1+w.Intn(3), depth+1)
	if w.Intn(2) == 0 {
		w.ops[at].K = len(w.ops)
		return
	}
	w.ops[at].K = len(w.ops) + 1
	w.over(func() { w.statements(1+w.Intn(3), depth+1) })
}

// counted: some times round.
func (w *writer) counted(depth int) {
	if depth >= loops {
		return
	}
	counter := w.open + loopsAt + depth*perLoop
	w.add(set(counter, []int{one, three, many, thousand}[w.Intn(7)%4]))
	top := len(w.ops)
	w.add(charge())
	w.statements(1+w.Intn(3), depth+1)
	w.add(op(api.ISub, counter, counter, w.open+oneAt))
	w.add(op(api.ILe, counter+4, counter, w.open+zeroAt))
	w.add(unless(counter+4, top))
}

// walked: over all keys of a map.
func (w *writer) walked(depth int) {
	if depth >= loops {
		return
	}
	k := w.Intn(mapCount)
	base := w.open + loopsAt + depth*perLoop
	key := base + w.c.Program.Maps[k].Key.Kind
	w.fill(key, w.c.Program.Maps[k].Key)
	w.add(be(base+3, w.Intn(2)))
	top := len(w.ops)
	w.add(charge())
	w.add(op(api.INext, base+4, key, base+3, k))
	out := len(w.ops)
	w.add(unless(base+4, 0))
	if at := w.used(w.types[key]); w.Intn(2) == 0 {
		w.add(op(api.IMove, at, key))
	}
	if w.Intn(3) == 0 {
		w.add(op(api.IDel, 0, key, 0, k))
	}
	w.statements(w.Intn(3), depth+1)
	w.add(jump(top))
	w.ops[out].K = len(w.ops)
}

// often: instructions, those more than once that leave much behind.
var often = slices.Concat([]int{
	api.IMove, api.IAdd, api.ISub, api.IMul, api.IWAdd, api.IWSub, api.IWMul, api.IDiv, api.IMod, api.ICat, api.INeg, api.INot, api.ILen, api.IStr,
	api.IMake, api.IField, api.IGet, api.IHas, api.IDel, api.INext, api.IAsk, api.IEmit, api.IAfter, api.IInt, api.IText, api.IBool, api.IPut, api.IPut, api.IPut, api.ICall, api.ICall, api.ICall,
}, []int{api.IEq, api.INe, api.ILt, api.ILe, api.IGt, api.IGe}, []int{api.IPut, api.IGet, api.INext, api.IEmit, api.ICall, api.IInt, api.IText, api.IMake, api.IField, api.IStr})

// simple: one instruction that neither jumps nor opens a call by itself.
func (w *writer) simple() {
	p := w.c.Program
	k := w.Intn(mapCount)
	key, v := p.Maps[k].Key, p.Maps[k].Value
	some := []api.Type{intType, textType, boolType, pair, flag, wide}[w.Intn(6)]
	switch code := often[w.Intn(len(often))]; code {
	case api.IInt, api.IText, api.IBool, api.IMake:
		w.fill(w.used(some), some)
	case api.IMove:
		w.add(op(code, w.given(some), w.used(some)))
	case api.ICat:
		w.add(op(code, w.given(textType), w.used(textType), w.used(textType)))
	case api.IEq, api.INe:
		t := []api.Type{intType, textType, boolType}[w.Intn(3)]
		w.add(op(code, w.given(boolType), w.used(t), w.used(t)))
	case api.ILt, api.ILe, api.IGt, api.IGe:
		t := []api.Type{intType, textType}[w.Intn(2)]
		w.add(op(code, w.given(boolType), w.used(t), w.used(t)))
	case api.INeg:
		w.add(op(code, w.given(intType), w.used(intType)))
	case api.INot:
		w.add(op(code, w.given(boolType), w.used(boolType)))
	case api.ILen:
		w.add(op(code, w.given(intType), w.used(textType)))
	case api.IStr:
		w.add(op(code, w.given(textType), w.used(intType)))
	case api.IField:
		rec := w.Intn(3)
		field := w.Intn(len(p.Records[rec].Types))
		w.add(op(code, w.given(p.Records[rec].Types[field]), w.used(api.Type{Kind: api.Record, Rec: rec}), 0, field))
	case api.IGet:
		w.add(op(code, w.given(v), w.used(key), 0, k))
	case api.IHas:
		w.add(op(code, w.given(boolType), w.used(key), 0, k))
	case api.IPut:
		w.add(op(code, 0, w.used(key), w.used(v), k))
	case api.IDel:
		w.add(op(code, 0, w.used(key), 0, k))
	case api.INext:
		w.add(op(code, w.given(boolType), w.used(key), w.used(boolType), k))
	case api.IAsk:
		w.add(op(code, w.given(textType), w.used(textType), 0, w.Intn(len(w.c.Texts))))
	case api.IEmit:
		w.add(emit(w.used(textType)))
	case api.IAfter:
		w.after()
	case api.ICall:
		w.call()
	default:
		w.add(op(code, w.given(intType), w.used(intType), w.used(intType)))
	}
}

// after: often with a delay that may be.
func (w *writer) after() {
	delay := w.used(intType)
	if w.Intn(4) > 0 {
		delay = w.open + oneAt
	}
	k := w.Intn(len(w.c.Program.Events))
	w.add(after(delay, w.row(w.c.Program.Events[k].Params), k))
}

// call: mostly of a function further on.
func (w *writer) call() {
	k := w.Intn(fnCount)
	if k <= w.fn && w.Intn(8) > 0 {
		return
	}
	sig := w.c.Program.Funcs[k]
	d := -1
	if sig.Result != noType && w.Intn(4) > 0 {
		d = w.given(sig.Result)
	}
	w.add(call(d, w.row(sig.Params), k))
}

// three: behind the constants that coded has.
const three = 5

// code: all functions and handlers by chance.
func (k maker) code() api.Code {
	c := coded([]api.Type{intType, textType, boolType, pair, wide})
	c.Ints = append(c.Ints, 3, 2, 7, -40, math.MaxInt64, math.MinInt64)
	c.Texts = append(c.Texts, "a", "b", "\xff", "twenty-seven bytes of text.")
	for fn, sig := range c.Program.Funcs {
		c.Funcs[fn] = k.function(c, fn, sig)
	}
	for fn, sig := range c.Program.Events {
		c.Events[fn] = k.function(c, -1, sig)
	}
	return c
}

// value: of a type.
func (k maker) value(p api.Program, t api.Type) api.Value {
	switch t.Kind {
	case api.Int:
		return numbered([]int64{int64(k.Intn(5)) - 2, int64(k.Intn(50)), edges[k.Intn(len(edges))]}[k.Intn(3)])
	case api.Text:
		return texted(samples[k.Intn(len(samples))])
	case api.Bool:
		return truth(k.Intn(2) == 0)
	}
	return recorded(t.Rec, k.values(p, p.Records[t.Rec].Types)...)
}

func (k maker) values(p api.Program, types []api.Type) []api.Value {
	var list []api.Value
	for _, t := range types {
		list = append(list, k.value(p, t))
	}
	return list
}

func (k maker) event(p api.Program) api.Event {
	sig := p.Events[k.Intn(len(p.Events))*k.Intn(2)]
	return api.Event{Name: sig.Name, Args: k.values(p, sig.Params)}
}

// state: its maps have few entries, many, or all that may be.
func (k maker) state(p api.Program) api.State {
	s := blank()
	for m, declared := range p.Maps {
		entries := map[string]api.Entry{}
		for i := range []int{0, 3, 12, 60}[k.Intn(4)] {
			e := api.Entry{Key: k.value(p, declared.Key), Value: k.value(p, declared.Value)}
			if e.Key.Text != "" && i%2 == 0 {
				e.Key.Text = strconv.Itoa(i)
			}
			entries[shown(e.Key)] = e
		}
		for _, e := range entries {
			s.Maps[m] = append(s.Maps[m], e)
		}
		slices.SortFunc(s.Maps[m], func(a, b api.Entry) int { return modelOrder(a.Key, b.Key) })
		s.Maps[m] = s.Maps[m][:min(len(s.Maps[m]), 24)]
	}
	return s
}

// answers: seldom one that is too long.
func (k maker) answers() []string {
	var list []string
	for range 6 {
		s := samples[k.Intn(len(samples))]
		if k.Intn(20) == 0 {
			s += "xy"
		}
		list = append(list, s)
	}
	return list
}
