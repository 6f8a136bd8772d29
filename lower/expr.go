package lower

import (
	"slices"

	"windlass/api"
)

// What an expression is, its names looked up: a variable or one of these.
type (
	number int64
	quoted string
	// operation: an instruction that uses the arguments, wherever they stand.
	operation struct{ code, k int }
	// gathering: an instruction that uses the arguments in a row; slot: where in the row an argument stands.
	gathering struct {
		code, k int
		slot    func(arg int) int
	}
	// choice: the second argument counts only if the first one is as told.
	choice bool
)

func inOrder(arg int) int { return arg }

func (f *function) meant(e *api.Expr) any {
	switch e.Kind {
	case api.EInt:
		return number(e.Int)
	case api.EText:
		return quoted(e.Text)
	case api.EBool:
		return operation{api.IBool, int(e.Int)}
	case api.EVar:
		return f.variable(e.Name)
	case api.EUnary, api.EBinary:
		return operator(e.Op)
	case api.EField:
		return operation{api.IField, slices.Index(f.program.Records[f.recordOf(&e.Args[0])].Fields, e.Name)}
	case api.EMake:
		rec := recordNamed(f.program, e.Name)
		slot := func(arg int) int { return slices.Index(f.program.Records[rec].Fields, e.Names[arg]) }
		return gathering{api.IMake, rec, slot}
	case api.EGet:
		return operation{api.IGet, mapNamed(f.program, e.Name)}
	case api.EHas:
		return operation{api.IHas, mapNamed(f.program, e.Name)}
	case api.ECall:
		return gathering{api.ICall, sigNamed(f.program.Funcs, e.Name), inOrder}
	}
	return operation{api.IAsk, f.port(e.Name)}
}

func operator(op int) any {
	switch op {
	case api.OAnd:
		return choice(true)
	case api.OOr:
		return choice(false)
	}
	codes := [...]int{
		api.OAdd: api.IAdd, api.OSub: api.ISub, api.OMul: api.IMul, api.OWAdd: api.IWAdd, api.OWSub: api.IWSub, api.OWMul: api.IWMul,
		api.ODiv: api.IDiv, api.OMod: api.IMod, api.OCat: api.ICat, api.OEq: api.IEq, api.ONe: api.INe, api.OLt: api.ILt, api.OLe: api.ILe,
		api.OGt: api.IGt, api.OGe: api.IGe, api.ONeg: api.INeg, api.ONot: api.INot, api.OLen: api.ILen, api.OStr: api.IStr,
	}
	return operation{codes[op], 0}
}

// recordOf: the number of e's record; of what is none it isn't asked for.
func (f *function) recordOf(e *api.Expr) int {
	switch e.Kind {
	case api.EVar:
		return f.variable(e.Name).rec
	case api.EMake:
		return recordNamed(f.program, e.Name)
	case api.EGet:
		return f.program.Maps[mapNamed(f.program, e.Name)].Value.Rec
	case api.ECall:
		return f.program.Funcs[sigNamed(f.program.Funcs, e.Name)].Result.Rec
	}
	return 0
}

// valued: where e's value stands: in the variable's register, if it is one, else in one that spare gives.
func (f *function) valued(e *api.Expr, spare func() int) int {
	if e.Kind == api.EVar {
		return f.variable(e.Name).register
	}
	d := spare()
	f.into(e, d)
	return d
}

// into puts e's value into d, which nothing of e reads.
func (f *function) into(e *api.Expr, d int) { f.put(e, d, f.through(d)) }

// put: d is given when e has read all that it reads, so that it may read d; what is made on the way stands in registers that spare gives.
func (f *function) put(e *api.Expr, d int, spare func() int) {
	held := f.take(0)
	switch x := f.meant(e).(type) {
	case variable:
		f.do(api.Op{Code: api.IMove, D: d, A: x.register})
	case number:
		f.number(int64(x), d)
	case quoted:
		f.text(string(x), d)
	case operation:
		f.operate(x, e.Args, d, spare)
	case gathering:
		f.do(api.Op{Code: x.code, D: d, A: f.inRow(e.Args, x.slot), K: x.k})
	case choice:
		f.decide(bool(x), e.Args, d, spare)
	}
	f.release(held)
}

func (f *function) operate(x operation, args []api.Expr, d int, spare func() int) {
	o := api.Op{Code: x.code, D: d, K: x.k}
	if len(args) > 0 {
		o.A = f.valued(&args[0], spare)
	}
	if len(args) > 1 {
		o.B = f.valued(&args[1], spare)
	}
	f.do(o)
}

// inRow: the first of a row of new registers with the arguments' values; they are made in the order in which they are written.
func (f *function) inRow(args []api.Expr, slot func(arg int) int) int {
	first := f.take(len(args))
	for i := range args {
		f.into(&args[i], first+slot(i))
	}
	return first
}

// decide: `and` goes on to its second one if the first is true, `or` if it is false.
func (f *function) decide(goesOn bool, args []api.Expr, d int, spare func() int) {
	second, out := f.newMark(), f.newMark()
	either := spare()
	f.into(&args[0], either)
	if goesOn {
		f.unless(either, out, second)
	} else {
		f.unless(either, second, out)
	}
	f.place(second)
	f.into(&args[1], either)
	f.place(out)
	if either != d {
		f.do(api.Op{Code: api.IMove, D: d, A: either})
	}
}
