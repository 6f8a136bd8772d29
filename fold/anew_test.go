package fold_test

import (
	"slices"
	"testing"

	"windlass/api"
)

// anew: an instruction that gives register 3 anew, behind others; of which type it is then.
type anew struct {
	what  string
	ahead []api.Op
	gives api.Op
	t     api.Type
}

// givers: each instruction that gives a register, of what isn't known; and those that give a constant again.
func (s *sheet) givers() []anew {
	list := []anew{
		{"IMove", nil, move(3, 0), intType}, {"IMove of a text", nil, move(3, 1), textType}, {"IMove of a truth", nil, move(3, 2), boolType},
		{"ICat", nil, op(api.ICat, 3, 1, 1), textType}, {"INeg", nil, op(api.INeg, 3, 0), intType}, {"INot", nil, op(api.INot, 3, 2), boolType},
		{"ILen", nil, op(api.ILen, 3, 1), intType}, {"IStr", nil, op(api.IStr, 3, 0), textType},
		{"IGet", nil, op(api.IGet, 3, 0, 0, numbers), intType}, {"IGet of a text", nil, op(api.IGet, 3, 1, 0, texts), textType}, {"IGet of a record", nil, op(api.IGet, 3, 0, 0, pairs), pair},
		{"IGet at what is known", []api.Op{s.num(5, 2)}, op(api.IGet, 3, 5, 0, numbers), intType}, {"IHas", nil, op(api.IHas, 3, 0, 0, numbers), boolType},
		{"IHas at what is known", []api.Op{s.num(5, 2)}, op(api.IHas, 3, 5, 0, numbers), boolType},
		{"IMake", nil, op(api.IMake, 3, 0, 0, 0), pair}, {"IMake of what is known", []api.Op{s.num(5, 2), s.text(6, "p")}, op(api.IMake, 3, 5, 0, 0), pair},
		{"IField", []api.Op{op(api.IMake, 5, 0, 0, 0)}, op(api.IField, 3, 5, 0, 0), intType}, {"IField, a text", []api.Op{op(api.IMake, 5, 0, 0, 0)}, op(api.IField, 3, 5, 0, 1), textType},
		{"IAsk", nil, s.ask(3, 1, "port"), textType}, {"IAsk of what is known", []api.Op{s.text(5, "p")}, s.ask(3, 5, "port"), textType},
		{"ICall of add", []api.Op{s.num(5, 2), s.num(6, 4)}, op(api.ICall, 3, 5, 0, fnAdd), intType}, {"ICall of say", []api.Op{s.text(5, "p")}, op(api.ICall, 3, 5, 0, fnSay), textType},
		{"ICall of pair", nil, op(api.ICall, 3, 0, 0, fnPair), pair},
		{"INext", []api.Op{s.num(5, 0), be(6, 0)}, op(api.INext, 3, 5, 6, numbers), boolType}, {"INext of what isn't known", nil, op(api.INext, 3, 0, 2, numbers), boolType},
		{"IInt", nil, s.num(3, 40), intType}, {"IText", nil, s.text(3, "forty"), textType}, {"IBool false", nil, be(3, 0), boolType}, {"IBool true", nil, be(3, 1), boolType},
	}
	for code := api.IAdd; code <= api.IMod; code++ {
		list = append(list, anew{"a number", nil, op(code, 3, 0, 0), intType}, anew{"of one that is known", []api.Op{s.num(5, 3)}, op(code, 3, 0, 5), intType})
	}
	for code := api.IEq; code <= api.IGe; code++ {
		list = append(list, anew{"a comparison", nil, op(code, 3, 0, 0), boolType}, anew{"a comparison of one that is known", []api.Op{s.text(5, "x")}, op(code, 3, 5, 1), boolType})
	}
	return list
}

// uses: instructions that use register 3, whose type is t, and tell what they give.
func (s *sheet) uses(t api.Type) []api.Op {
	switch t {
	case intType:
		return slices.Concat([]api.Op{op(api.IWSub, 7, 3, 3), op(api.IWAdd, 8, 3, 3), op(api.IStr, 9, 3), move(10, 3)}, s.tell(8, intType), s.tell(9, textType), s.tell(10, intType))
	case textType:
		return slices.Concat([]api.Op{op(api.ILen, 7, 3), op(api.IEq, 8, 3, 1), move(10, 3)}, s.tell(7, intType), s.tell(8, boolType), s.tell(10, textType))
	case boolType:
		return slices.Concat([]api.Op{op(api.INot, 7, 3), op(api.IEq, 8, 3, 2), move(10, 3)}, s.tell(7, boolType), s.tell(8, boolType), s.tell(10, boolType))
	}
	return slices.Concat([]api.Op{op(api.IField, 7, 3, 0, 0), op(api.IField, 8, 3, 0, 1), move(10, 3)}, s.tell(7, intType), s.tell(8, textType), s.tell(10, pair))
}

// P14.1, P14.2: whatever a register had, an integer, a text or a truth, once it is given anew that isn't known any more.
func TestGivenAnew(t *testing.T) {
	var s sheet
	for _, g := range s.givers() {
		for _, was := range []api.Value{numbered(2), texted("p"), truth(true), truth(false)} {
			ops := slices.Concat([]api.Op{s.give(3, was)}, g.ahead, []api.Op{g.gives}, s.uses(g.t))
			want := ops
			if g.gives.Code <= api.IBool {
				want = slices.Concat([]api.Op{s.give(3, was), g.gives}, s.known(g.gives))
			}
			wantFolded(t, g.what, s.unitOf(ops...), s.spelled(charged(want...)))
		}
	}
}

// known: what becomes of uses, if register 3 has what this instruction gives.
func (s *sheet) known(o api.Op) []api.Op {
	switch {
	case o.Code == api.IInt:
		return slices.Concat([]api.Op{s.num(7, 0), s.num(8, 80), s.text(9, "40"), s.num(10, 40)}, s.tell(8, intType), s.tell(9, textType), s.tell(10, intType))
	case o.Code == api.IText:
		return slices.Concat([]api.Op{s.num(7, 5), op(api.IEq, 8, 3, 1), s.text(10, "forty")}, s.tell(7, intType), s.tell(8, boolType), s.tell(10, textType))
	}
	return slices.Concat([]api.Op{be(7, 1-o.K), op(api.IEq, 8, 3, 2), be(10, o.K)}, s.tell(7, boolType), s.tell(8, boolType), s.tell(10, boolType))
}

// P14.2: INext gives its key and its truth anew, too, but nothing else.
func TestNextGivesThree(t *testing.T) {
	var s sheet
	for _, isMet := range []int{0, 1} {
		for _, first := range []int64{-5, 0, 100} {
			next := []api.Op{s.num(3, first), be(4, isMet), be(5, 0), s.num(6, 9), op(api.INext, 5, 3, 4, numbers)}
			uses := []api.Op{op(api.IWAdd, 7, 3, 3), op(api.INot, 8, 4), op(api.INot, 9, 5), move(10, 3), move(11, 4), move(12, 5)}
			told := slices.Concat(s.tell(7, intType), s.tell(8, boolType), s.tell(9, boolType), s.tell(10, intType), s.tell(11, boolType), s.tell(12, boolType))
			ops := slices.Concat(next, uses, []api.Op{op(api.INeg, 13, 6)}, told)
			want := slices.Concat(next, uses, []api.Op{s.num(13, -9)}, told)
			wantFolded(t, "INext", s.unitOf(ops...), s.spelled(charged(want...)))
			// The truth and whether there is one may be one register; the other one keeps what it has.
			next[4].D = 4
			ops = slices.Concat(next, uses, told)
			want = slices.Concat(next, uses[:2], []api.Op{be(9, 1)}, uses[3:5], []api.Op{be(12, 0)}, told)
			wantFolded(t, "INext of two registers", s.unitOf(ops...), s.spelled(charged(want...)))
		}
	}
}

// P14.2: instructions without a D give nothing, though D is 0; a call whose result isn't wanted, too.
func TestNothingIsGiven(t *testing.T) {
	var s sheet
	between := slices.Concat([]api.Op{
		op(api.IPut, 0, 3, 4, numbers), op(api.IDel, 0, 3, 0, numbers), op(api.IEmit, 0, 5), op(api.ICharge), op(api.IEnter), op(api.ILeave),
		op(api.ICall, -1, 3, 0, fnAdd), op(api.ICall, -1, 5, 0, fnSay), op(api.ICall, -1, 0, 0, fnNothing),
	}, s.tell(3, intType))
	ahead := []api.Op{s.num(0, 2), s.num(3, 3), s.num(4, 4), s.text(5, "p")}
	uses := []api.Op{op(api.INeg, 6, 0), op(api.INeg, 7, 3), op(api.INeg, 8, 4), op(api.ILen, 9, 5)}
	reckoned := []api.Op{s.num(6, -2), s.num(7, -3), s.num(8, -4), s.num(9, 1)}
	s.wantRows(t, []row{{"nothing", slices.Concat(ahead, between, uses), slices.Concat(ahead, between, reckoned)}})
}

// P14.2: a record of what is known stays, and its fields.
func TestRecordsStay(t *testing.T) {
	var s sheet
	two := slices.Concat([]api.Op{s.num(3, 9), s.num(4, 5), op(api.IMake, 3, 3, 0, 1), op(api.IField, 5, 3, 0, 0), op(api.IField, 6, 3, 0, 1), op(api.IWAdd, 7, 5, 6)}, s.tell(5, intType), s.tell(6, intType), s.tell(7, intType))
	one := slices.Concat([]api.Op{be(3, 1), op(api.IMake, 3, 3, 0, 2), move(4, 3), op(api.IField, 5, 4, 0, 0), op(api.INot, 6, 5)}, s.tell(5, boolType), s.tell(6, boolType))
	s.wantRows(t, []row{{"of two", two, two}, {"of one", one, one}})
}

// P14.1: to a block's beginning several ways may come, each with a constant of its own.
func TestBlocksBegin(t *testing.T) {
	var s sheet
	told := slices.Concat([]api.Op{op(api.IWAdd, 4, 3, 3), move(5, 3)}, s.tell(4, intType), s.tell(5, intType))
	one, two := s.num(3, 1), s.num(3, 2)
	rounds := []api.Op{op(api.IWAdd, 3, 3, 4), op(api.ILt, 5, 3, 6)}
	for _, w := range []struct {
		what   string
		blocks []api.Block
	}{
		{"two ways", []api.Block{unless(2, 1, 2, charged(one)...), jump(2, two), ret(-1, told...)}},
		{"two blocks", []api.Block{unless(2, 1, 2, charged()...), jump(3, one), jump(3, two), ret(-1, told...)}},
		{"to the next", []api.Block{jump(1, charged(one)...), jump(2), ret(-1, told...)}},
		{"unless to it", []api.Block{unless(2, 1, 1, charged(one)...), ret(-1, told...)}},
		{"round and back", []api.Block{jump(1, charged(s.num(3, 0), s.num(4, 1), s.num(6, 5))...), unless(5, 2, 1, charged(rounds...)...), ret(-1, told...)}},
		{"round itself", []api.Block{jump(2, charged(s.num(3, 0), s.num(4, 1), s.num(6, 5))...), ret(-1, charged(told...)...), unless(5, 1, 2, charged(rounds...)...)}},
		{"to the first", []api.Block{unless(2, 1, 2, charged(s.num(3, 8), op(api.IWAdd, 0, 0, 3))...), ret(-1, told...), jump(0, be(2, 0), s.num(3, 9))}},
	} {
		u := s.unit(w.blocks...)
		v := passed(t, u)
		for _, r := range someRuns() {
			wantAlike(t, u, v, r)
		}
		if t.Failed() {
			t.Fatal(w.what)
		}
	}
}

// P14.2: blocks to which nothing comes are reckoned, too; what layer 11 never looks at may be anything.
func TestBlocksThatAreNotReached(t *testing.T) {
	var s sheet
	junk := []api.Op{s.num(3, 2), s.text(4, "p"), be(5, 1)}
	for code := api.IMove; code <= api.IStr; code++ {
		for a := 3; a <= 5; a++ {
			o := op(code, 6, a)
			if _, isOfTwo := operands(code); isOfTwo {
				o.B = 3 + (a+code)%3
			}
			junk = append(junk, o)
		}
	}
	right := []api.Op{s.num(3, 2), op(api.INeg, 4, 3), op(api.IStr, 4, 4)}
	u := s.unit(ret(-1, charged()...), jump(1, charged(junk...)...), ret(-1, right...))
	u.Funcs[fnAdd].Blocks = append(u.Funcs[fnAdd].Blocks, ret(2, right[:2]...))
	u.Funcs[fnAdd].Regs = 7
	v := passed(t, u)
	if got, want := spelled(v, v.Events[onE].Blocks[2].Ops), []string{"int D=3 2", "int D=4 -2", `text D=4 "-2"`}; !slices.Equal(got, want) {
		t.Errorf("P14.2: %q, want %q", got, want)
	}
	if got, want := spelled(v, v.Funcs[fnAdd].Blocks[1].Ops), []string{"int D=3 2", "int D=4 -2"}; !slices.Equal(got, want) {
		t.Errorf("P14.2: %q, want %q", got, want)
	}
}

// P14.2: each function and each handler is gone over, each of its blocks.
func TestAllFunctions(t *testing.T) {
	var s sheet
	u := s.unit(jump(1, charged(s.num(3, 2), op(api.INeg, 4, 3))...), ret(-1, s.num(3, 5), op(api.INeg, 4, 3)))
	for i := range fnCount {
		g := &u.Funcs[i]
		g.Regs += 2
		g.Blocks[0].Ops = append(g.Blocks[0].Ops, s.num(g.Regs-1, int64(10+i)), op(api.INeg, g.Regs-2, g.Regs-1))
	}
	for i := range eventCount {
		g := &u.Events[i]
		g.Regs += 2
		last := &g.Blocks[len(g.Blocks)-1]
		last.Ops = append(last.Ops, s.num(g.Regs-1, int64(20+i)), op(api.INeg, g.Regs-2, g.Regs-1))
	}
	u.Ints, u.Texts = s.ints, s.texts
	v := passed(t, u)
	for i, g := range graphs(v) {
		last := g.Blocks[len(g.Blocks)-1].Ops
		n := []int64{10, 11, 12, 13, 20, 21, 22, 23, 24}[i]
		if o := last[len(last)-1]; o.Code != api.IInt || v.Ints[o.K] != -n {
			t.Errorf("P14.2: %q", spelled(v, last))
		}
	}
}
