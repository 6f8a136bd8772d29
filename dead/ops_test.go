package dead_test

import (
	"fmt"
	"slices"
	"testing"

	"windlass/api"
)

// giver: an instruction that gives register 3, which is of this type then, behind others that it needs.
type giver struct {
	what  string
	ahead []api.Op
	op    api.Op
	t     api.Type
}

// named: each instruction that P15.2 names, of each type.
func (s *sheet) named() []giver {
	record := []api.Op{op(api.IMake, 5, 0, 0, 0)}
	list := []giver{
		{"IInt", nil, s.num(3, 40), intType}, {"IText", nil, s.text(3, "forty"), textType}, {"IBool, false", nil, be(3, 0), boolType}, {"IBool, true", nil, be(3, 1), boolType},
		{"IMove", nil, move(3, 0), intType}, {"IMove of a text", nil, move(3, 1), textType}, {"IMove of a truth", nil, move(3, 2), boolType}, {"IMove of a record", record, move(3, 5), pair},
		{"IWAdd", nil, op(api.IWAdd, 3, 0, 0), intType}, {"IWSub", nil, op(api.IWSub, 3, 0, 0), intType}, {"IWMul", nil, op(api.IWMul, 3, 0, 0), intType},
		{"INot", nil, op(api.INot, 3, 2), boolType}, {"ILen", nil, op(api.ILen, 3, 1), intType}, {"IStr", nil, op(api.IStr, 3, 0), textType},
		{"IMake", nil, op(api.IMake, 3, 0, 0, 0), pair}, {"IMake of what is given", []api.Op{s.num(5, 2), s.text(6, "p")}, op(api.IMake, 3, 5, 0, 0), pair},
		{"IField", record, op(api.IField, 3, 5, 0, 0), intType}, {"IField, a text", record, op(api.IField, 3, 5, 0, 1), textType},
		{"IGet", nil, op(api.IGet, 3, 0, 0, numbers), intType}, {"IGet of a text", nil, op(api.IGet, 3, 1, 0, texts), textType}, {"IGet of a record", nil, op(api.IGet, 3, 0, 0, pairs), pair}, {"IGet of a truth", nil, op(api.IGet, 3, 0, 0, truths), boolType},
		{"IHas", nil, op(api.IHas, 3, 0, 0, numbers), boolType}, {"IHas of a text", nil, op(api.IHas, 3, 1, 0, texts), boolType}, {"IHas at what is given", []api.Op{s.num(5, 2)}, op(api.IHas, 3, 5, 0, numbers), boolType},
	}
	for code := api.IEq; code <= api.IGe; code++ {
		list = append(list, giver{fmt.Sprint("comparison ", code), []api.Op{s.num(5, 2)}, op(code, 3, 0, 5), boolType}, giver{fmt.Sprint("comparison of texts ", code), nil, op(code, 3, 1, 1), boolType})
	}
	for _, code := range []int{api.IEq, api.INe} {
		list = append(list, giver{fmt.Sprint("comparison of truths ", code), nil, op(code, 3, 2, 2), boolType})
	}
	return list
}

// others: each instruction that may trap, or does something beside giving a register.
func (s *sheet) others() []giver {
	key := []api.Op{s.num(5, 0), be(6, 0)}
	list := []giver{
		{"IDiv", nil, op(api.IDiv, 3, 0, 0), intType}, {"IMod", nil, op(api.IMod, 3, 0, 0), intType}, {"IDiv by what is given", []api.Op{s.num(5, 0)}, op(api.IDiv, 3, 0, 5), intType},
		{"IAdd", nil, op(api.IAdd, 3, 0, 0), intType}, {"ISub", []api.Op{s.num(5, 1)}, op(api.ISub, 3, 0, 5), intType}, {"IMul", nil, op(api.IMul, 3, 0, 0), intType}, {"IAdd that never traps", []api.Op{s.num(5, 1)}, op(api.IAdd, 3, 5, 5), intType},
		{"ICat", nil, op(api.ICat, 3, 1, 1), textType}, {"INeg", nil, op(api.INeg, 3, 0), intType}, {"ICat that never traps", []api.Op{s.text(5, "")}, op(api.ICat, 3, 5, 5), textType},
		{"INext", key, op(api.INext, 3, 5, 6, numbers), boolType}, {"INext at what was handed in", nil, op(api.INext, 3, 0, 2, numbers), boolType},
		{"ICall of add", []api.Op{s.num(5, 2), s.num(6, 4)}, op(api.ICall, 3, 5, 0, fnAdd), intType}, {"ICall of say", nil, op(api.ICall, 3, 1, 0, fnSay), textType}, {"ICall of pair", nil, op(api.ICall, 3, 0, 0, fnPair), pair},
		{"ICall of truth", nil, op(api.ICall, 3, 2, 0, fnTruth), boolType}, {"IAsk", nil, s.ask(3, 1, "port"), textType}, {"IAsk of what is given", []api.Op{s.text(5, "p")}, s.ask(3, 5, "port"), textType},
	}
	return list
}

// wordless: each instruction that gives no register.
func (s *sheet) wordless() []giver {
	return []giver{
		{"IPut", nil, op(api.IPut, 0, 0, 0, numbers), noType}, {"IPut of what is given", []api.Op{s.num(5, 2), s.num(6, 3)}, op(api.IPut, 0, 5, 6, numbers), noType}, {"IPut of a record", []api.Op{op(api.IMake, 5, 0, 0, 0)}, op(api.IPut, 0, 0, 5, pairs), noType},
		{"IDel", nil, op(api.IDel, 0, 0, 0, numbers), noType}, {"IDel of what is given", []api.Op{s.text(5, "k101")}, op(api.IDel, 0, 5, 0, texts), noType},
		{"ICall of what gives nothing", nil, op(api.ICall, -1, 0, 0, fnNothing), noType}, {"ICall of which nothing is wanted", []api.Op{s.num(5, 2), s.num(6, 4)}, op(api.ICall, -1, 5, 0, fnAdd), noType},
		{"IEmit", nil, op(api.IEmit, 0, 1), noType}, {"IEmit of what is given", []api.Op{s.text(5, "p")}, op(api.IEmit, 0, 5), noType},
		{"IAfter", []api.Op{s.num(5, 2)}, op(api.IAfter, 0, 5, 0, onE), noType}, {"IAfter at once", nil, op(api.IAfter, 0, 0, 0, onNone), noType},
		{"IAfter of what is given", []api.Op{s.num(5, 2), s.num(6, 3), s.text(7, "p"), be(8, 1)}, op(api.IAfter, 0, 5, 6, onE), noType}, {"ICharge", nil, op(api.ICharge), noType},
	}
}

// P15.2: what is named and not wanted goes, and with it what it alone wants; wanted it stays, by whatever it is given anew behind that or was given ahead.
func TestNamed(t *testing.T) {
	var s sheet
	for _, g := range s.named() {
		row := append(slices.Clone(g.ahead), g.op)
		told := s.tell(3, g.t)
		s.wantRow(t, g.what, row, nil)
		s.wantRow(t, g.what+", wanted", slices.Concat(row, told), slices.Concat(row, told))
		s.wantRow(t, g.what+", wanted and then not", slices.Concat(row, told, row), slices.Concat(row, told))
		s.wantRow(t, g.what+", twice", slices.Concat(row, row, told), slices.Concat(row, told))
		s.wantRow(t, g.what+", wanted twice", slices.Concat(row, told, row, told), slices.Concat(row, told, row, told))
	}
	s.wantEachGivenAnew(t)
}

// wantEachGivenAnew: that what register 3 had ahead goes, whatever gives it anew.
func (s *sheet) wantEachGivenAnew(t *testing.T) {
	t.Helper()
	for _, g := range slices.Concat(s.named(), s.others()) {
		for _, was := range []api.Op{s.num(3, 8), s.text(3, "was"), be(3, 1), op(api.IMake, 3, 0, 0, 0), move(3, 2)} {
			row := slices.Concat(g.ahead, []api.Op{g.op}, s.tell(3, g.t))
			s.wantRow(t, g.what+" anew", append([]api.Op{was}, row...), row)
		}
	}
}

// P15.1: what may trap, or does something, stays, though what it gives isn't wanted, and what it uses stays, too.
func TestOthers(t *testing.T) {
	var s sheet
	for _, g := range append(s.others(), s.wordless()...) {
		row := append(slices.Clone(g.ahead), g.op)
		s.wantRow(t, g.what, row, row)
		s.wantRow(t, g.what+", twice", slices.Concat(row, row), slices.Concat(row, row))
		if g.t != noType {
			told := s.tell(3, g.t)
			s.wantRow(t, g.what+", wanted", slices.Concat(row, told), slices.Concat(row, told))
			s.wantRow(t, g.what+", given anew", slices.Concat(row, []api.Op{s.num(3, 1)}), row)
		}
		// Whatever isn't wanted stands around it.
		around := []api.Op{s.num(9, 5), op(api.IStr, 10, 9), op(api.ILen, 11, 10), op(api.IWAdd, 3, 11, 11)}
		s.wantRow(t, g.what+" among others", slices.Concat(around, row, around), row)
	}
	s.wantRow(t, "IEnter", []api.Op{op(api.IEnter), s.num(3, 1), op(api.IEnter), op(api.ILeave), s.num(3, 1), op(api.ILeave)}, []api.Op{op(api.IEnter), op(api.IEnter), op(api.ILeave), op(api.ILeave)})
}

// P15.2: an instruction uses the registers in its own fields, all of a row and none beside it.
func TestUsed(t *testing.T) {
	var s sheet
	around := []api.Op{s.num(12, 77), s.num(15, 78), s.num(18, 79)}
	two := []api.Op{s.num(13, 2), s.num(14, 3)}
	words := []api.Op{s.num(13, 2), s.text(14, "p")}
	three := []api.Op{s.num(13, 2), s.text(14, "p"), be(16, 1), move(15, 16)}
	for _, g := range []giver{
		{"ICall", two, op(api.ICall, -1, 13, 0, fnAdd), noType}, {"ICall of one", []api.Op{s.text(13, "p")}, op(api.ICall, -1, 13, 0, fnSay), noType}, {"ICall of none", nil, op(api.ICall, -1, 13, 0, fnNothing), noType},
		{"IMake", words, op(api.IMake, 3, 13, 0, 0), pair}, {"IMake of two numbers", slices.Concat(two, []api.Op{op(api.IMake, 4, 13, 0, 1)}), op(api.IField, 3, 4, 0, 1), intType}, {"IMake of one", []api.Op{be(13, 1), op(api.IMake, 4, 13, 0, 2)}, op(api.IField, 3, 4, 0, 0), boolType},
		{"IAfter", append(slices.Clone(three), s.num(17, 9)), op(api.IAfter, 0, 17, 13, onE), noType}, {"IAfter of none", []api.Op{s.num(17, 9)}, op(api.IAfter, 0, 17, 12, onNone), noType}, {"IAfter of one", []api.Op{s.num(17, 9), s.text(14, "p")}, op(api.IAfter, 0, 17, 14, onText), noType},
		{"IPut", two, op(api.IPut, 0, 13, 14, numbers), noType}, {"IPut of one", two[:1], op(api.IPut, 0, 13, 13, numbers), noType}, {"IDel", two[:1], op(api.IDel, 0, 13, 0, numbers), noType}, {"IEmit", words[1:], op(api.IEmit, 0, 14), noType},
		{"INext", []api.Op{s.num(13, 4), be(14, 1)}, op(api.INext, 3, 13, 14, pairs), boolType}, {"IAsk", words[1:], s.ask(3, 14, "port"), textType},
	} {
		row := append(slices.Clone(g.ahead), g.op)
		if g.t != noType {
			row = append(row, s.tell(3, g.t)...)
		}
		s.wantRow(t, g.what, append(slices.Clone(around), row...), row)
	}
	for code := api.IAdd; code <= api.IMod; code++ {
		for _, g := range []giver{{"both", two, op(code, 3, 13, 14), intType}, {"the first", two[:1], op(code, 3, 13, 0), intType}, {"the second", two[1:], op(code, 3, 0, 14), intType}, {"one, twice", two[:1], op(code, 3, 13, 13), intType}} {
			row := slices.Concat(g.ahead, []api.Op{g.op}, s.tell(3, g.t))
			s.wantRow(t, fmt.Sprint(code, ": ", g.what), append(slices.Clone(around), row...), row)
		}
	}
}

// P15.2: what uses the register that it gives wants what it had.
func TestUsedAndGiven(t *testing.T) {
	var s sheet
	record := op(api.IMake, 3, 0, 0, 0)
	for _, w := range []struct {
		what string
		row  []api.Op
		t    api.Type
	}{
		{"IMove", []api.Op{s.num(3, 2), move(3, 3)}, intType}, {"IWMul", []api.Op{s.num(3, 2), op(api.IWMul, 3, 3, 3)}, intType}, {"IWSub of B", []api.Op{s.num(3, 2), op(api.IWSub, 3, 0, 3)}, intType}, {"IAdd of A", []api.Op{s.num(3, 2), op(api.IAdd, 3, 3, 0)}, intType},
		{"INeg", []api.Op{s.num(3, 2), op(api.INeg, 3, 3)}, intType}, {"INot", []api.Op{be(3, 1), op(api.INot, 3, 3)}, boolType}, {"ILen", []api.Op{s.text(3, "p"), op(api.ILen, 3, 3)}, intType}, {"IStr", []api.Op{s.num(3, 2), op(api.IStr, 3, 3)}, textType},
		{"IEq", []api.Op{s.num(3, 2), op(api.IEq, 3, 3, 0)}, boolType}, {"ILt", []api.Op{s.text(3, "p"), op(api.ILt, 3, 1, 3)}, boolType}, {"IMake", []api.Op{s.num(3, 2), s.text(4, "p"), op(api.IMake, 3, 3, 0, 0)}, pair}, {"IMake of the last", []api.Op{s.num(2, 2), s.text(3, "p"), op(api.IMake, 3, 2, 0, 0)}, pair},
		{"IField", []api.Op{record, op(api.IField, 3, 3, 0, 0)}, intType}, {"IGet", []api.Op{s.num(3, 2), op(api.IGet, 3, 3, 0, pairs)}, pair}, {"IHas", []api.Op{s.num(3, 2), op(api.IHas, 3, 3, 0, pairs)}, boolType}, {"ICall", []api.Op{s.num(3, 2), s.num(4, 3), op(api.ICall, 3, 3, 0, fnAdd)}, intType},
		{"ICall of the last", []api.Op{s.num(2, 2), s.num(3, 3), op(api.ICall, 3, 2, 0, fnAdd)}, intType}, {"IAsk", []api.Op{s.text(3, "p"), s.ask(3, 3, "port")}, textType}, {"INext, its truth", []api.Op{s.num(4, 0), be(3, 0), op(api.INext, 3, 4, 3, numbers)}, boolType},
	} {
		told := s.tell(3, w.t)
		s.wantRow(t, w.what, slices.Concat(w.row, told), slices.Concat(w.row, told))
		if last := w.row[len(w.row)-1]; isNamed(last) {
			s.wantRow(t, w.what+", not wanted", w.row, nil)
		} else {
			s.wantRow(t, w.what+", not wanted", w.row, w.row)
		}
	}
	// The key may be D, too; what it is then isn't known.
	row := []api.Op{s.num(3, 2), be(4, 0), op(api.INext, 3, 3, 4, numbers)}
	s.wantRow(t, "INext, its key", row, row)
}

// P15.1: INext's key and its truth: it uses both, and both may be used behind it, whether or not they are given anew.
func TestNext(t *testing.T) {
	var s sheet
	next := op(api.INext, 5, 3, 4, numbers)
	given := []api.Op{s.num(3, -5), be(4, 0)}
	for _, w := range []struct {
		what       string
		ops, extra []api.Op // what goes stands in extra, behind ops
	}{
		{"nothing is wanted", slices.Concat(given, []api.Op{next}), nil},
		{"the key is wanted", slices.Concat(given, []api.Op{next}, s.tell(3, intType)), []api.Op{move(6, 3)}},
		{"the truth is wanted", slices.Concat(given, []api.Op{next}, s.tell(4, boolType)), []api.Op{op(api.INot, 6, 4)}},
		{"whether there is one is wanted", slices.Concat(given, []api.Op{next}, s.tell(5, boolType)), []api.Op{op(api.INot, 6, 5)}},
		{"all are wanted, twice", slices.Concat(given, []api.Op{next}, s.tell(3, intType), s.tell(5, boolType), []api.Op{next}, s.tell(3, intType), s.tell(4, boolType), s.tell(5, boolType)), []api.Op{move(6, 3), be(4, 0), s.num(3, 2)}},
		{"the key is given anew", slices.Concat(given, []api.Op{next, s.num(3, 1), next}, s.tell(3, intType)), nil},
		{"the truth is given anew", slices.Concat(given, []api.Op{next, be(4, 0), next}, s.tell(3, intType)), nil},
		{"both are", slices.Concat(given, []api.Op{next, s.num(3, 2), be(4, 1), next}, s.tell(3, intType)), []api.Op{s.num(3, 2), be(4, 1)}},
		{"one register is the truth and whether there is one", slices.Concat(given, []api.Op{op(api.INext, 4, 3, 4, numbers)}, s.tell(3, intType), s.tell(4, boolType)), nil},
		{"of texts", slices.Concat([]api.Op{s.text(3, "k100"), be(4, 1), op(api.INext, 5, 3, 4, texts)}, s.tell(3, textType)), []api.Op{op(api.ILen, 3, 3)}},
	} {
		s.wantRow(t, w.what, slices.Concat(w.ops, w.extra), w.ops)
	}
	// Whether there is one was something else ahead.
	s.wantRow(t, "D was given", slices.Concat(given, []api.Op{be(5, 1), next}, s.tell(5, boolType)), slices.Concat(given, []api.Op{next}, s.tell(5, boolType)))
}

// P15.2: instructions without a D give nothing, though D is 0; those without an A or a B use nothing, though these are 0.
func TestFieldsThatAreNotThere(t *testing.T) {
	var s sheet
	between := slices.Concat([]api.Op{
		s.num(3, 1), op(api.IPut, 0, 3, 3, numbers), op(api.IDel, 0, 3, 0, numbers), op(api.IEmit, 0, 1), op(api.ICharge), op(api.IEnter), op(api.ILeave),
		op(api.ICall, -1, 3, 0, fnNothing), op(api.IAfter, 0, 3, 1, onText),
	}, s.tell(3, intType))
	zero := s.num(0, 9)
	s.wantRow(t, "0 is wanted", slices.Concat([]api.Op{zero}, between, s.tell(0, intType)), slices.Concat([]api.Op{zero}, between, s.tell(0, intType)))
	s.wantRow(t, "0 isn't wanted", slices.Concat([]api.Op{zero}, between), between)
	wanted := slices.Concat([]api.Op{s.num(3, 1), s.text(4, "x"), be(5, 1)}, s.tell(3, intType), s.tell(4, textType), s.tell(5, boolType))
	s.wantRow(t, "0 isn't used by constants", slices.Concat([]api.Op{zero}, wanted), wanted)
	s.wantRow(t, "0 isn't used by one operand", slices.Concat([]api.Op{zero, s.num(3, 1), op(api.INeg, 4, 3)}, s.tell(4, intType)), slices.Concat([]api.Op{s.num(3, 1), op(api.INeg, 4, 3)}, s.tell(4, intType)))
	// Nor is it by a block's end that has no register.
	u := s.unit(jump(1, charged(zero)...), jump(2, zero), ret(-1, zero))
	wantBlocks(t, "ends", u, jump(1, charged()...), jump(2), ret(-1))
}

// P15.2: the registers at the edges of what there may be.
func TestEdgeRegisters(t *testing.T) {
	var s sheet
	for _, r := range []int{0, 1, 30, 31, 32, 33, 62, 63} {
		other := 63 - r
		row := []api.Op{s.num(r, 5), op(api.IPut, 0, r, r, numbers)}
		u := s.unit(ret(-1, charged(slices.Concat([]api.Op{s.num(other, 3), s.num(r, 4)}, row, []api.Op{s.num(r, 6), move(other, r)})...)...))
		u.Events[onE].Regs = api.MaxRegs
		wantBlocks(t, fmt.Sprint("register ", r), u, ret(-1, charged(row...)...))
	}
	// All at once.
	var all []api.Op
	for r := range api.MaxRegs {
		all = append(all, s.num(r, int64(r)))
	}
	var puts []api.Op
	for r := range api.MaxRegs {
		puts = append(puts, op(api.IPut, 0, r, 63-r, numbers))
	}
	u := s.unit(ret(-1, charged(slices.Concat(all, all, puts, all)...)...))
	u.Events[onE].Regs = api.MaxRegs
	wantBlocks(t, "all", u, ret(-1, charged(slices.Concat(all, puts)...)...))
}
