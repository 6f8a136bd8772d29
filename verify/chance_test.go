package verify_test

import (
	"math/rand"
	"slices"
	"strings"
	"testing"

	"windlass/api"
	"windlass/code"
)

// maker makes codes by chance, of the program of the sample.
type maker struct{ *rand.Rand }

// fields: which ones an instruction has, how many numbers its K may be.
type fields struct {
	names string
	count int
}

// fieldsOf: the fields of each instruction that neither jumps nor ends.
var fieldsOf = func() map[int]fields {
	table := map[int]fields{
		api.IInt: {"DK", 3}, api.IText: {"DK", 2}, api.IBool: {"DK", 2}, api.IMove: {"DA", 1}, api.INeg: {"DA", 1}, api.INot: {"DA", 1}, api.ILen: {"DA", 1}, api.IStr: {"DA", 1},
		api.IMake: {"DAK", 2}, api.IField: {"DAK", 2}, api.IGet: {"DAK", 4}, api.IHas: {"DAK", 4}, api.IPut: {"ABK", 4}, api.IDel: {"AK", 4}, api.INext: {"DABK", 4},
		api.ICall: {"DAK", 4}, api.IAsk: {"DAK", 2}, api.IEmit: {"A", 1}, api.IAfter: {"ABK", 3}, api.ICharge: {"", 1}, api.IEnter: {"", 1}, api.ILeave: {"", 1},
	}
	for _, n := range []int{api.IAdd, api.ISub, api.IMul, api.IWAdd, api.IWSub, api.IWMul, api.IDiv, api.IMod, api.ICat, api.IEq, api.INe, api.ILt, api.ILe, api.IGt, api.IGe} {
		table[n] = fields{"DAB", 1}
	}
	return table
}()

// op: one whose registers are all there.
func (k maker) op(p api.Program, regs int) api.Op {
	for {
		o := api.Op{Code: api.IInt + k.Intn(api.ILeave)}
		shape, ok := fieldsOf[o.Code]
		if !ok {
			continue
		}
		for i, field := range []*int{&o.D, &o.A, &o.B} {
			if strings.Contains(shape.names, "DAB"[i:i+1]) {
				*field = k.Intn(regs)
			}
		}
		o.K = k.Intn(shape.count)
		if o.Code == api.ICall && k.Intn(3) == 0 {
			o.D = -1
		}
		if used, _ := code.Uses(p, o); len(used) == 0 || slices.Max(used) < regs {
			return o
		}
	}
}

// suited: often one that may stand where the registers have these types.
func (k maker) suited(p api.Program, regs int, r row) api.Op {
	var o api.Op
	for range 40 {
		o = k.op(p, regs)
		isHeight := o.Code == api.IEnter || o.Code == api.ILeave
		if modelSuits(p, api.Sig{}, o, r) && !isHeight {
			return o
		}
	}
	return charge()
}

// function: one that is often taken: its instructions suit if one comes to them from those ahead.
func (k maker) function(p api.Program, sig api.Sig, length int) api.Fn {
	var r row
	copy(r[:], sig.Params)
	f := api.Fn{Regs: max(len(sig.Params), 3+k.Intn(6)), Ops: []api.Op{charge()}}
	height := 0
	add := func(o api.Op) {
		r = modelBehind(p, o, r)[0]
		f.Ops = append(f.Ops, o)
	}
	for len(f.Ops) < length {
		switch n := k.Intn(20); {
		case n < 2:
			if truths := registersOf(r, f.Regs, boolType); len(truths) > 0 {
				add(unless(truths[k.Intn(len(truths))], k.target(f.Ops, length)))
			}
		case n == 2:
			add(jump(k.target(f.Ops, length)))
		case n == 3 && height < 12:
			add(enter())
			height++
		case n == 4 && height > 0:
			add(leave())
			height--
		case n == 5:
			add(charge())
		default:
			add(k.suited(p, f.Regs, r))
		}
	}
	for range height {
		add(leave())
	}
	for _, o := range ending(sig) {
		add(o)
	}
	return f
}

// target: a charge that is there, or an instruction that will be.
func (k maker) target(ops []api.Op, length int) int {
	if at := k.Intn(len(ops)); ops[at].Code == api.ICharge && k.Intn(2) == 0 {
		return at
	}
	return len(ops) + 1 + k.Intn(length-len(ops))
}

// registersOf: those that have this type.
func registersOf(r row, regs int, t api.Type) []int {
	var list []int
	for i := range regs {
		if r[i] == t {
			list = append(list, i)
		}
	}
	return list
}

// ending: the last instructions of a function, with its result.
func ending(sig api.Sig) []api.Op {
	switch sig.Result {
	case textType:
		return []api.Op{text(0), ret(0)}
	case intType:
		return []api.Op{number(0), ret(0)}
	case flag:
		return []api.Op{truth(0), record(0, 0, 1), ret(0)}
	}
	return []api.Op{end()}
}

// code: often one that is taken.
func (k maker) code() api.Code {
	c := sample()
	for fn := range functionCount {
		*body(&c, fn) = k.function(c.Program, sigOf(c, fn), 2+k.Intn(14))
	}
	return c
}

// spoil makes something of an instruction another number.
func (k maker) spoil(c *api.Code) {
	f := body(c, k.Intn(functionCount))
	at := k.Intn(len(f.Ops))
	switch k.Intn(5) {
	case 0:
		f.Ops[at] = k.op(c.Program, f.Regs)
	case 1:
		f.Ops = slices.Delete(f.Ops, at, at+1)
	case 2:
		f.Ops = slices.Insert(f.Ops, at, []api.Op{enter(), leave(), jump(at), charge(), end()}[k.Intn(5)])
	case 3:
		*[]*int{&f.Ops[at].D, &f.Ops[at].A, &f.Ops[at].B, &f.Ops[at].K}[k.Intn(4)] = k.Intn(10) - 1
	case 4:
		other := k.Intn(len(f.Ops))
		f.Ops[at], f.Ops[other] = f.Ops[other], f.Ops[at]
	}
}

// All calls, on codes by chance, as they are and spoilt.
func TestCodesByChance(t *testing.T) {
	k := maker{rand.New(rand.NewSource(111))}
	seen, seenSpoilt := map[api.Errno]int{}, map[api.Errno]int{}
	for range 4000 {
		c := k.code()
		seen[want(t, "by chance", c)]++
		k.spoil(&c)
		seenSpoilt[want(t, "spoilt", c)]++
	}
	t.Logf("%v, spoilt: %v", seen, seenSpoilt)
	if seen[api.OK] < 500 {
		t.Error("too few are taken")
	}
	for _, err := range []api.Errno{api.OK, api.ErrVerifyShape, api.ErrVerifyJump, api.ErrVerifyEnd, api.ErrVerifyHeight, api.ErrVerifyType} {
		if seenSpoilt[err] < 40 {
			t.Errorf("%d is seen too seldom", err)
		}
	}
}
