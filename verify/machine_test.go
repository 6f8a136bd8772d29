package verify_test

import (
	"math/rand"
	"slices"
	"strconv"
	"testing"

	"windlass/api"
	"windlass/code"
	"windlass/heap"
	"windlass/value"
	"windlass/verify"
)

// P11.5: a machine that does codes as P9.1 has it, and looks at each register that it reads, at all registers ahead of each instruction, and counts.

// stopped: how a machine leaves what it does, as a trap would.
type stopped struct{}

type machine struct {
	t     *testing.T
	c     api.Code
	types [][][]api.Type
	state api.State
	// charges: of the event; open: calls; row: instructions since the last charge; done: all of them.
	charges, open, row, longest, done int
}

// frame: the registers of a function that is being done.
type frame struct {
	*machine
	fn, at int
	values []api.Value
}

func number64(n int64) api.Value { return api.Value{Kind: api.Int, Int: n} }
func textOf(s string) api.Value  { return api.Value{Kind: api.Text, Text: s} }
func truthOf(b bool) api.Value {
	if b {
		return api.Value{Kind: api.Bool, Int: 1}
	}
	return api.Value{Kind: api.Bool}
}

func newMachine(t *testing.T, c api.Code) *machine {
	m := &machine{t: t, c: c}
	for fn := range functionCount {
		types, err := verify.Types(c, fn)
		if err != api.OK {
			t.Fatalf("P11.4: %d", err)
		}
		m.types = append(m.types, types)
	}
	m.state, _ = heap.New(c.Program)
	return m
}

// trapIf stops it.
func (m *machine) trapIf(isTrap bool) {
	if isTrap {
		panic(stopped{})
	}
}

// handle does an event; false, if it was stopped.
func (m *machine) handle(fn int, args []api.Value) (isDone bool) {
	m.charges, m.open, m.row = 0, 0, 0
	before := m.state
	defer func() {
		if r := recover(); r != nil {
			if _, ok := r.(stopped); !ok {
				panic(r)
			}
			m.state, isDone = before, false
		}
	}()
	m.call(fn, args)
	return true
}

// call does a function.
func (m *machine) call(fn int, args []api.Value) api.Value {
	f := &frame{machine: m, fn: fn, values: make([]api.Value, body(&m.c, fn).Regs)}
	copy(f.values, args)
	for {
		f.look()
		o := body(&m.c, fn).Ops[f.at]
		f.at++
		m.count(o)
		switch o.Code {
		case api.IJump:
			f.at = o.K
		case api.IUnless:
			if !f.truth(o.A) {
				f.at = o.K
			}
		case api.IRet:
			return f.result(o)
		default:
			f.does(o)
		}
	}
}

// count: P11.5's charges and instructions between two of them.
func (m *machine) count(o api.Op) {
	m.done++
	m.row++
	m.longest = max(m.longest, m.row)
	if o.Code == api.ICharge {
		m.trapIf(m.charges == api.MaxFuel)
		m.charges++
		m.row = 0
	}
}

// look: each register has the type that it is said to have.
func (f *frame) look() {
	types := f.types[f.fn][f.at]
	if len(types) != len(f.values) {
		f.t.Fatalf("P11.4: function %d comes to instruction %d, of %d registers %d have types", f.fn, f.at, len(f.values), len(types))
	}
	for i, t := range types {
		if t != noType && !value.Is(f.c.Program, t, f.values[i]) {
			f.t.Fatalf("P11.5: function %d, instruction %d: register %d is %v, not %v; %v", f.fn, f.at, i, f.values[i], t, body(&f.c, f.fn).Ops)
		}
	}
}

// read: the register must have this type.
func (f *frame) read(register int, t api.Type) api.Value {
	v := f.values[register]
	if !value.Is(f.c.Program, t, v) {
		f.t.Fatalf("P11.5: function %d reads register %d as %v: %v", f.fn, register, t, v)
	}
	return v
}

func (f *frame) number(register int) int64 { return f.read(register, intType).Int }
func (f *frame) text(register int) string  { return f.read(register, textType).Text }
func (f *frame) truth(register int) bool   { return f.read(register, boolType).Int == 1 }

// readRow: as many registers as there are types.
func (f *frame) readRow(at int, types []api.Type) []api.Value {
	var list []api.Value
	for i, t := range types {
		list = append(list, f.read(at+i, t))
	}
	return list
}

func (f *frame) result(o api.Op) api.Value {
	sig := sigOf(f.c, f.fn)
	if sig.Result == noType {
		if o.A != -1 {
			f.t.Fatalf("P11.3: function %d has no result", f.fn)
		}
		return api.Value{}
	}
	return f.read(o.A, sig.Result)
}

func (f *frame) does(o api.Op) {
	p := f.c.Program
	switch o.Code {
	case api.IEnter, api.ILeave:
		f.opens(o)
	case api.IPut:
		state, err := heap.Put(f.state, o.K, f.read(o.A, p.Maps[o.K].Key), f.read(o.B, p.Maps[o.K].Value))
		f.trapIf(err != api.OK)
		f.state = state
	case api.IDel:
		f.state = heap.Del(f.state, o.K, f.read(o.A, p.Maps[o.K].Key))
	case api.INext:
		f.next(o)
	case api.IEmit:
		f.text(o.A)
	case api.IAfter:
		f.number(o.A)
		f.readRow(o.B, p.Events[o.K].Params)
	case api.ICall:
		f.trapIf(f.open == api.MaxCalls)
		f.open++
		v := f.call(o.K, f.readRow(o.A, p.Funcs[o.K].Params))
		f.open--
		if o.D >= 0 {
			f.values[o.D] = v
		}
	default:
		if d, gives := code.Gives(p, o); gives {
			f.values[d] = f.given(o)
		}
	}
}

func (f *frame) opens(o api.Op) {
	if o.Code == api.IEnter {
		f.trapIf(f.open == api.MaxCalls)
		f.open++
		return
	}
	f.open--
	if f.open < 0 {
		f.t.Fatalf("P11.5: function %d leaves what it hasn't entered", f.fn)
	}
}

func (f *frame) next(o api.Op) {
	key, found := heap.First(f.state, o.K)
	if last := f.read(o.A, f.c.Program.Maps[o.K].Key); f.truth(o.B) {
		key, found = heap.Next(f.state, o.K, last)
	}
	f.values[o.D] = truthOf(found)
	if found {
		f.values[o.A], f.values[o.B] = key, truthOf(true)
	}
}

// given: what D is, of the other instructions.
func (f *frame) given(o api.Op) api.Value {
	p := f.c.Program
	switch o.Code {
	case api.IInt:
		return number64(f.c.Ints[o.K])
	case api.IText:
		return textOf(f.c.Texts[o.K])
	case api.IBool:
		return truthOf(o.K == 1)
	case api.IMove:
		return f.values[o.A]
	case api.ICat:
		s := f.text(o.A) + f.text(o.B)
		f.trapIf(len(s) > api.MaxText)
		return textOf(s)
	case api.INot:
		return truthOf(!f.truth(o.A))
	case api.ILen:
		return number64(int64(len(f.text(o.A))))
	case api.IStr:
		return textOf(strconv.FormatInt(f.number(o.A), 10))
	case api.IMake:
		return api.Value{Kind: api.Record, Rec: o.K, Fields: f.readRow(o.A, p.Records[o.K].Types)}
	case api.IField:
		return f.values[o.A].Fields[o.K]
	case api.IGet:
		v, found := heap.Get(f.state, o.K, f.read(o.A, p.Maps[o.K].Key))
		if !found {
			return value.Zero(p, p.Maps[o.K].Value)
		}
		return v
	case api.IHas:
		_, found := heap.Get(f.state, o.K, f.read(o.A, p.Maps[o.K].Key))
		return truthOf(found)
	case api.IAsk:
		return textOf(f.text(o.A)[:0] + "answer")
	}
	return f.reckoned(o)
}

// reckoned: by numbers, or by an order.
func (f *frame) reckoned(o api.Op) api.Value {
	if api.IEq <= o.Code && o.Code <= api.IGe {
		order := value.Compare(f.values[o.A], f.values[o.B])
		return truthOf([]bool{order == 0, order != 0, order < 0, order <= 0, order > 0, order >= 0}[o.Code-api.IEq])
	}
	a := f.number(o.A)
	switch o.Code {
	case api.INeg:
		return number64(-a)
	case api.IAdd, api.IWAdd:
		return number64(a + f.number(o.B))
	case api.ISub, api.IWSub:
		return number64(a - f.number(o.B))
	case api.IMul, api.IWMul:
		return number64(a * f.number(o.B))
	}
	f.trapIf(f.number(o.B) == 0)
	if o.Code == api.IDiv {
		return number64(a / f.number(o.B))
	}
	return number64(a % f.number(o.B))
}

// args: of a handler's types.
func (k maker) args(p api.Program, params []api.Type) []api.Value {
	var list []api.Value
	for _, t := range params {
		switch t.Kind {
		case api.Int:
			list = append(list, number64(int64(k.Intn(5)-2)))
		case api.Text:
			list = append(list, textOf([]string{"", "a", "bc"}[k.Intn(3)]))
		case api.Bool:
			list = append(list, truthOf(k.Intn(2) == 0))
		default:
			list = append(list, api.Value{Kind: api.Record, Rec: t.Rec, Fields: k.args(p, p.Records[t.Rec].Types)})
		}
	}
	return list
}

func TestMachine(t *testing.T) {
	k := maker{rand.New(rand.NewSource(112))}
	taken, ended, done, out := 0, 0, 0, 0
	for range 6000 {
		c := k.code()
		if k.Intn(2) == 0 {
			k.spoil(&c)
		}
		bound, err := verify.Bound(c)
		if err != api.OK {
			continue
		}
		taken++
		m := newMachine(t, c)
		for range 12 {
			event := k.Intn(len(c.Events))
			if m.handle(len(c.Funcs)+event, k.args(c.Program, c.Program.Events[event].Params)) {
				ended++
			}
			if m.charges == api.MaxFuel {
				out++
			}
			if !heap.Is(c.Program, m.state) {
				t.Fatalf("P11.5: %v: a state of other types", c)
			}
		}
		done += m.done
		if m.longest > bound {
			t.Fatalf("P11.5: %v: %d instructions without a charge, Bound %d", c, m.longest, bound)
		}
	}
	t.Logf("%d codes, %d events came to their end, %d were out of charges, %d instructions", taken, ended, out, done)
	if taken < 1000 || ended < 5000 || out < 500 {
		t.Error("too few")
	}
}

// P11.5: as many calls within calls as may be, each with many instructions behind it: they are all done without a charge, and are no more than Bound.
func TestLongestRow(t *testing.T) {
	for filling := range 2000 {
		if filling > 3 && filling != 100 && filling != api.MaxOps-8 {
			continue
		}
		c := sample()
		c.Ints[1] = 11
		idle := slices.Repeat([]api.Op{number(2)}, filling)
		// It calls itself with one less, until there is nothing left.
		c.Funcs[fnSum] = api.Fn{Regs: 4, Ops: slices.Concat([]api.Op{
			charge(), {Code: api.IInt, D: 2, K: 2}, {Code: api.INe, D: 3, A: 0, B: 2}, unless(3, 7+filling),
			number(2), {Code: api.ISub, D: 0, A: 0, B: 2}, {Code: api.ICall, D: 0, A: 0, K: fnSum},
		}, idle, []api.Op{ret(0)})}
		c.Events[1] = api.Fn{Regs: 3, Ops: slices.Concat([]api.Op{
			charge(), {Code: api.IInt, D: 0, K: 1}, truth(1), {Code: api.ICall, D: 0, A: 0, K: fnSum},
		}, idle, []api.Op{end()})}
		bound, err := verify.Bound(c)
		if err != api.OK || bound != 14*(8+filling+1) {
			t.Fatalf("P11.4: %d instructions: %d, %d", 8+filling, bound, err)
		}
		m := newMachine(t, c)
		if !m.handle(onNothing, nil) {
			t.Fatal("it doesn't come to its end")
		}
		if m.longest != 4+12*(filling+1) || m.longest > bound {
			t.Errorf("P11.5: %d without a charge, Bound %d", m.longest, bound)
		}
	}
}
