package code

import (
	"iter"

	"windlass/api"
)

// role: what a field of an instruction is for.
type role byte

const (
	absent  role = iota // the instruction hasn't this field
	gives               // a register that is given
	mayGive             // likewise, or nothing
	uses                // a register that is used
	mayUse              // likewise, or nothing
	row                 // the first of as many registers as what K names takes
	intNumber
	textNumber
	truth
	recordNumber
	fieldNumber
	mapNumber
	funcNumber
	eventNumber
	target // of a jump
)

// nothing stands in a field in the place of a register.
const nothing = -1

// shape: an instruction's name for people, and what its fields are for.
type shape struct {
	name       string
	d, a, b, k role
}

// shapeOf: false of a number that is no instruction's.
func shapeOf(code int) (shape, bool) {
	shapes := [...]shape{
		api.IInt:    {"int", gives, absent, absent, intNumber},
		api.IText:   {"text", gives, absent, absent, textNumber},
		api.IBool:   {"bool", gives, absent, absent, truth},
		api.IMove:   {"move", gives, uses, absent, absent},
		api.IAdd:    {"add", gives, uses, uses, absent},
		api.ISub:    {"sub", gives, uses, uses, absent},
		api.IMul:    {"mul", gives, uses, uses, absent},
		api.IWAdd:   {"wadd", gives, uses, uses, absent},
		api.IWSub:   {"wsub", gives, uses, uses, absent},
		api.IWMul:   {"wmul", gives, uses, uses, absent},
		api.IDiv:    {"div", gives, uses, uses, absent},
		api.IMod:    {"mod", gives, uses, uses, absent},
		api.ICat:    {"cat", gives, uses, uses, absent},
		api.IEq:     {"eq", gives, uses, uses, absent},
		api.INe:     {"ne", gives, uses, uses, absent},
		api.ILt:     {"lt", gives, uses, uses, absent},
		api.ILe:     {"le", gives, uses, uses, absent},
		api.IGt:     {"gt", gives, uses, uses, absent},
		api.IGe:     {"ge", gives, uses, uses, absent},
		api.INeg:    {"neg", gives, uses, absent, absent},
		api.INot:    {"not", gives, uses, absent, absent},
		api.ILen:    {"len", gives, uses, absent, absent},
		api.IStr:    {"str", gives, uses, absent, absent},
		api.IMake:   {"make", gives, row, absent, recordNumber},
		api.IField:  {"field", gives, uses, absent, fieldNumber},
		api.IGet:    {"get", gives, uses, absent, mapNumber},
		api.IHas:    {"has", gives, uses, absent, mapNumber},
		api.IPut:    {"put", absent, uses, uses, mapNumber},
		api.IDel:    {"del", absent, uses, absent, mapNumber},
		api.INext:   {"next", gives, uses, uses, mapNumber},
		api.ICall:   {"call", mayGive, row, absent, funcNumber},
		api.IAsk:    {"ask", gives, uses, absent, textNumber},
		api.IEmit:   {"emit", absent, uses, absent, absent},
		api.IAfter:  {"after", absent, uses, row, eventNumber},
		api.ICharge: {"charge", absent, absent, absent, absent},
		api.IEnter:  {"enter", absent, absent, absent, absent},
		api.ILeave:  {"leave", absent, absent, absent, absent},
		api.IJump:   {"jump", absent, absent, absent, target},
		api.IUnless: {"unless", absent, uses, absent, target},
		api.IRet:    {"ret", absent, mayUse, absent, absent},
	}
	// Of 0, too, the table has a row, though no instruction.
	if code < api.IInt || code >= len(shapes) {
		return shape{}, false
	}
	return shapes[code], true
}

// fields hands on what each field of o is for, and its number.
func (s shape) fields(o api.Op) iter.Seq2[role, int] {
	return func(yield func(role, int) bool) {
		_ = yield(s.d, o.D) && yield(s.a, o.A) && yield(s.b, o.B) && yield(s.k, o.K)
	}
}

// rowLength: how many registers a row has whose instruction names k (0 of one without a row); false, if that isn't there in p.
func (s shape) rowLength(p api.Program, k int) (int, bool) {
	switch s.k {
	case recordNumber:
		if !isBelow(k, len(p.Records)) {
			return 0, false
		}
		return len(p.Records[k].Fields), true
	case mapNumber:
		return 0, isBelow(k, len(p.Maps))
	case funcNumber:
		return params(p.Funcs, k)
	case eventNumber:
		return params(p.Events, k)
	}
	return 0, true
}

func params(sigs []api.Sig, k int) (int, bool) {
	if !isBelow(k, len(sigs)) {
		return 0, false
	}
	return len(sigs[k].Params), true
}

func isBelow(n, count int) bool { return 0 <= n && n < count }
