package vm_test

import (
	"math/big"
	"slices"
	"testing"

	"windlass/api"
	"windlass/verify"
	"windlass/vm"
)

// The chapter's words said over: a call is a call, a trap a panic, numbers are reckoned exactly, maps have their entries in the order in which they came.

// stopped: how a run leaves what it does, if it doesn't come to its end.
type stopped struct{ end, trap int }

type model struct {
	c                        api.Code
	answers                  []string
	waiting                  int
	maps                     [][]api.Entry
	told                     api.Outcome
	open, done, row, longest int
}

// modelRun: of arguments that are taken; also Trace's numbers.
func modelRun(c api.Code, s api.State, e api.Event, answers []string, waiting int) (api.Outcome, [2]int) {
	m := &model{c: c, answers: answers, waiting: waiting}
	for _, entries := range s.Maps {
		m.maps = append(m.maps, slices.Clone(entries))
	}
	how := m.handle(e)
	m.told.End, m.told.Trap = how.end, how.trap
	if how.end != api.Done {
		m.told.State, m.told.Emits, m.told.Plans = s, nil, nil
		return m.told, [2]int{m.done, m.longest}
	}
	for _, entries := range m.maps {
		slices.SortFunc(entries, func(a, b api.Entry) int { return modelOrder(a.Key, b.Key) })
		m.told.State.Maps = append(m.told.State.Maps, entries)
	}
	return m.told, [2]int{m.done, m.longest}
}

func (m *model) handle(e api.Event) (how stopped) {
	defer func() {
		if r := recover(); r != nil {
			reason, isStop := r.(stopped)
			if !isStop {
				panic(r)
			}
			how = reason
		}
	}()
	for k, sig := range m.c.Program.Events {
		if sig.Name == e.Name {
			m.call(m.c.Events[k], e.Args)
		}
	}
	return stopped{}
}

func trapIf(isSo bool, trap int) {
	if isSo {
		panic(stopped{api.Trapped, trap})
	}
}

// modelOrder: of numbers, texts, truths.
func modelOrder(a, b api.Value) int {
	if a.Kind == api.Text {
		return slices.Compare([]byte(a.Text), []byte(b.Text))
	}
	return big.NewInt(a.Int).Cmp(big.NewInt(b.Int))
}

func (m *model) count(o api.Op) {
	m.done++
	m.row++
	if o.Code == api.ICharge {
		m.row = 0
	}
	m.longest = max(m.longest, m.row)
}

// call: a function from its first instruction to its IRet.
func (m *model) call(f api.Fn, args []api.Value) api.Value {
	r := make([]api.Value, f.Regs)
	copy(r, args)
	at := 0
	for {
		o := f.Ops[at]
		at++
		m.count(o)
		switch o.Code {
		case api.IJump:
			at = o.K
		case api.IUnless:
			if r[o.A].Int == 0 {
				at = o.K
			}
		case api.IRet:
			if o.A == -1 {
				return api.Value{}
			}
			return r[o.A]
		case api.ICall:
			trapIf(m.open == 12, api.TrapDepth)
			m.open++
			v := m.call(m.c.Funcs[o.K], r[o.A:o.A+len(m.c.Program.Funcs[o.K].Params)])
			m.open--
			if o.D != -1 {
				r[o.D] = v
			}
		default:
			m.does(o, r)
		}
	}
}

func (m *model) does(o api.Op, r []api.Value) {
	switch o.Code {
	case api.ICharge:
		trapIf(m.told.Fuel == 400, api.TrapFuel)
		m.told.Fuel++
	case api.IEnter:
		trapIf(m.open == 12, api.TrapDepth)
		m.open++
	case api.ILeave:
		m.open--
	case api.IPut:
		at := m.find(o.K, r[o.A])
		trapIf(at < 0 && len(m.maps[o.K]) == 24, api.TrapFull)
		if at < 0 {
			m.maps[o.K] = append(m.maps[o.K], api.Entry{Key: r[o.A], Value: r[o.B]})
		} else {
			m.maps[o.K][at].Value = r[o.B]
		}
	case api.IDel:
		m.maps[o.K] = slices.DeleteFunc(m.maps[o.K], func(e api.Entry) bool { return modelOrder(e.Key, r[o.A]) == 0 })
	case api.INext:
		m.next(o, r)
	case api.IEmit:
		trapIf(len(m.told.Emits) == 12, api.TrapEmits)
		m.told.Emits = append(m.told.Emits, r[o.A].Text)
	case api.IAfter:
		delay := r[o.A].Int
		trapIf(delay < 1 || delay > 1000 || min(max(m.waiting, 0), 12)+len(m.told.Plans) >= 12, api.TrapDelay)
		sig := m.c.Program.Events[o.K]
		args := slices.Clone(r[o.B : o.B+len(sig.Params)])
		m.told.Plans = append(m.told.Plans, api.Plan{Delay: int(delay), Event: api.Event{Name: sig.Name, Args: args}})
	default:
		r[o.D] = m.given(o, r)
	}
}

// find: where the key is in map k, or -1.
func (m *model) find(k int, key api.Value) int {
	return slices.IndexFunc(m.maps[k], func(e api.Entry) bool { return modelOrder(e.Key, key) == 0 })
}

func (m *model) next(o api.Op, r []api.Value) {
	var least *api.Value
	for _, e := range m.maps[o.K] {
		isAbove := r[o.B].Int == 0 || modelOrder(e.Key, r[o.A]) > 0
		if isAbove && (least == nil || modelOrder(e.Key, *least) < 0) {
			least = &e.Key
		}
	}
	r[o.D] = truth(least != nil)
	if least != nil {
		r[o.A], r[o.B] = *least, truth(true)
	}
}

func (m *model) given(o api.Op, r []api.Value) api.Value {
	switch o.Code {
	case api.IInt:
		return numbered(m.c.Ints[o.K])
	case api.IText:
		return texted(m.c.Texts[o.K])
	case api.IBool:
		return truth(o.K == 1)
	case api.IMove:
		return r[o.A]
	case api.ICat:
		trapIf(len(r[o.A].Text)+len(r[o.B].Text) > 64, api.TrapLong)
		return texted(r[o.A].Text + r[o.B].Text)
	case api.INot:
		return truth(r[o.A].Int == 0)
	case api.ILen:
		return numbered(int64(len(r[o.A].Text)))
	case api.IStr:
		return texted(big.NewInt(r[o.A].Int).String())
	case api.IMake:
		return recorded(o.K, slices.Clone(r[o.A:o.A+len(m.c.Program.Records[o.K].Fields)])...)
	case api.IField:
		return r[o.A].Fields[o.K]
	case api.IHas:
		return truth(m.find(o.K, r[o.A]) >= 0)
	case api.IGet:
		if at := m.find(o.K, r[o.A]); at >= 0 {
			return m.maps[o.K][at].Value
		}
		return zeros[o.K]
	case api.IAsk:
		return m.answer(o, r[o.A].Text)
	case api.IEq, api.INe, api.ILt, api.ILe, api.IGt, api.IGe:
		order := modelOrder(r[o.A], r[o.B])
		return truth([]bool{order == 0, order != 0, order < 0, order <= 0, order > 0, order >= 0}[o.Code-api.IEq])
	}
	a, b, code := r[o.A].Int, r[o.B].Int, o.Code
	if code == api.INeg {
		a, b, code = 0, a, api.ISub
	}
	n, trap := exact(code, a, b)
	trapIf(trap != api.TrapNone, trap)
	return numbered(n)
}

func (m *model) answer(o api.Op, question string) api.Value {
	trapIf(len(m.told.Requests) == 4, api.TrapAsks)
	n := len(m.told.Requests) + 1
	m.told.Requests = append(m.told.Requests, api.Request{N: n, Port: m.c.Texts[o.K], Text: question})
	if n > len(m.answers) {
		panic(stopped{api.Waits, api.TrapNone})
	}
	trapIf(len(m.answers[n-1]) > 64, api.TrapLong)
	return texted(m.answers[n-1])
}

// want holds Run and Trace against the model; it tells what Run answers.
func want(t *testing.T, c api.Code, s api.State, e api.Event, answers []string, waiting int) api.Outcome {
	t.Helper()
	expected, numbers := modelRun(c, s, e, answers, waiting)
	o, err := vm.Run(c, s, e, answers, waiting)
	if err != api.OK || shown(o) != shown(expected) {
		t.Errorf("P12.1 to P12.3: %s, %d; want %s; %v on %s", shown(o), err, shown(expected), e, shown(s))
	}
	done, longest, err := vm.Trace(c, s, e, answers, waiting)
	if err != api.OK || [2]int{done, longest} != numbers {
		t.Errorf("P12.4: %d, %d, %d; want %v", done, longest, err, numbers)
	}
	if bound, err := verify.Bound(c); err != api.OK || longest > bound {
		t.Errorf("P12.5: %d in a row, Bound %d, %d", longest, bound, err)
	}
	return o
}
