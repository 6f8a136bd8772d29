package fuse_test

import (
	"fmt"
	"slices"
	"testing"

	"windlass/api"
)

// giver: an instruction that gives register 3, which is of this type then, behind others that it needs.
type giver struct {
	what  string
	ahead []api.Op
	op    api.Op
	t     api.Type
}

// givers: each instruction that gives a register, of each type; register 5 and those behind it are used besides.
func (s *sheet) givers() []giver {
	record := []api.Op{op(api.IMake, 5, 0, 0, 0)}
	key := []api.Op{s.num(5, 0), be(6, 0)}
	list := []giver{
		{"IInt", nil, s.num(3, 40), intType}, {"IText", nil, s.text(3, "forty"), textType}, {"IBool", nil, be(3, 0), boolType}, {"IBool, true", nil, be(3, 1), boolType},
		{"IMove", nil, move(3, 0), intType}, {"IMove of a text", nil, move(3, 1), textType}, {"IMove of a truth", nil, move(3, 2), boolType}, {"IMove of a record", record, move(3, 5), pair},
		{"ICat", nil, op(api.ICat, 3, 1, 1), textType}, {"INeg", nil, op(api.INeg, 3, 0), intType}, {"INot", nil, op(api.INot, 3, 2), boolType}, {"ILen", nil, op(api.ILen, 3, 1), intType}, {"IStr", nil, op(api.IStr, 3, 0), textType},
		{"IMake", nil, op(api.IMake, 3, 0, 0, 0), pair}, {"IField", record, op(api.IField, 3, 5, 0, 0), intType}, {"IField, a text", record, op(api.IField, 3, 5, 0, 1), textType},
		{"IGet", nil, get(3, 0, numbers), intType}, {"IGet of a text", nil, get(3, 1, texts), textType}, {"IGet of a record", nil, get(3, 1, heads), pair}, {"IGet of a truth", nil, get(3, 0, truths), boolType},
		{"IHas", nil, op(api.IHas, 3, 0, 0, numbers), boolType}, {"IHas of a text", nil, op(api.IHas, 3, 1, 0, texts), boolType},
		{"INext", key, op(api.INext, 3, 5, 6, numbers), boolType}, {"INext's key", append(slices.Clone(key), s.num(3, 2)), op(api.INext, 7, 3, 6, numbers), intType}, {"INext's text", append(slices.Clone(key), s.text(3, "k")), op(api.INext, 7, 3, 6, texts), textType}, {"INext's truth", append(slices.Clone(key), be(3, 0)), op(api.INext, 7, 5, 3, numbers), boolType},
		{"INext's truth and D", append(slices.Clone(key), be(3, 1)), op(api.INext, 3, 5, 3, numbers), boolType},
		{"IAsk", nil, s.ask(3, 1, "port"), textType},
	}
	for code := api.IAdd; code <= api.IMod; code++ {
		list = append(list, giver{fmt.Sprint("arithmetic ", code), []api.Op{s.num(5, 2)}, op(code, 3, 0, 5), intType})
	}
	for code := api.IEq; code <= api.IGe; code++ {
		list = append(list, giver{fmt.Sprint("comparison ", code), []api.Op{s.num(5, 2)}, op(code, 3, 0, 5), boolType})
	}
	return list
}

// callers: each sort of call that gives register 3.
func callers() []giver {
	return []giver{
		{"ICall of fetch", nil, op(api.ICall, 3, 0, 0, fnFetch), intType}, {"ICall of say", nil, op(api.ICall, 3, 1, 0, fnSay), textType}, {"ICall of pair", nil, op(api.ICall, 3, 0, 0, fnPair), pair}, {"ICall of truth", nil, op(api.ICall, 3, 2, 0, fnTruth), boolType},
	}
}

// wordless: each instruction that gives no register, but calls and writings of numbers.
func (s *sheet) wordless() []giver {
	return []giver{
		{"IPut", nil, put(0, 2, truths), noType}, {"IPut of a record", []api.Op{op(api.IMake, 5, 0, 0, 0)}, put(0, 5, pairs), noType}, {"IDel", nil, del(0, lines), noType}, {"IDel of a text", nil, del(1, texts), noType},
		{"IEmit", nil, op(api.IEmit, 0, 1), noType}, {"IAfter", []api.Op{s.num(5, 2)}, op(api.IAfter, 0, 5, 0, onE), noType}, {"IAfter at once", nil, op(api.IAfter, 0, 0, 0, onNone), noType}, {"ICharge", nil, op(api.ICharge), noType},
	}
}

// P17.2: the key's register is given anew between two reads, by each sort of instruction: the second one stays, though the key be the same.
func TestKeyGivenAnew(t *testing.T) {
	var s sheet
	for _, g := range append(s.givers(), callers()...) {
		first, fill := 0, s.num(3, 2)
		if g.t == textType {
			first, fill = 1, s.text(3, "two")
		}
		for _, m := range tables() {
			if m.key != first || g.t != intType && g.t != textType {
				continue
			}
			// The read ahead is of what a handler has, else of a constant.
			ahead := append(slices.Clone(g.ahead), fill)
			was := slices.Concat(ahead, []api.Op{get(9, 3, m.number), g.op, get(10, 3, m.number), get(11, 3, m.number)}, s.toldFrom(m.value, 9, 10))
			want := slices.Concat(ahead, []api.Op{get(9, 3, m.number), g.op, get(10, 3, m.number), move(11, 10)}, s.toldFrom(m.value, 9, 10))
			s.wantRow(t, g.what, was, want)
		}
	}
}

// P17.2: what the first read gave is given anew between two reads, by each sort of instruction: the second one stays.
func TestValueGivenAnew(t *testing.T) {
	var s sheet
	for _, g := range append(s.givers(), callers()...) {
		for _, m := range tables() {
			if !isFit(g, m) {
				continue
			}
			read := func(d int) api.Op { return get(d, 12, m.number) }
			ahead := append(slices.Clone(g.ahead), move(12, m.key))
			told := slices.Concat(s.tell(3, g.t), s.toldFrom(m.value, 10))
			was := slices.Concat(ahead, []api.Op{read(3), g.op, read(10)}, told)
			s.wantRow(t, g.what, was, was)
			was = slices.Concat(ahead, []api.Op{read(3), g.op, read(3), move(10, 3)}, s.toldFrom(m.value, 3, 10))
			s.wantRow(t, g.what+", the same D", was, was)
		}
	}
}

// isFit: whether a value of the map's may stand where an instruction gives register 3: one that uses it, too, needs its type.
func isFit(g giver, m table) bool {
	isUsed := g.op.Code == api.INext && (g.op.A == 3 || g.op.B == 3)
	return !isUsed || m.value == g.t
}

// P17.2: anything else between two reads: the second one is a move.
func TestOthersBetween(t *testing.T) {
	var s sheet
	for _, g := range slices.Concat(s.givers(), s.wordless()) {
		read := func(d int) api.Op { return get(d, 12, numbers) }
		ahead := append(slices.Clone(g.ahead), move(12, 0))
		told := s.toldFrom(intType, 9, 10)
		s.wantRow(t, g.what, slices.Concat(ahead, []api.Op{read(9), g.op, read(10)}, told), slices.Concat(ahead, []api.Op{read(9), g.op, move(10, 9)}, told))
		s.wantRow(t, g.what+", twice", slices.Concat(ahead, []api.Op{read(9), g.op, read(10), read(11)}, told), slices.Concat(ahead, []api.Op{read(9), g.op, move(10, 9), move(11, 9)}, told))
		s.wantRow(t, g.what+", the same D", slices.Concat(ahead, []api.Op{read(9), g.op, read(9), read(10)}, told), slices.Concat(ahead, []api.Op{read(9), g.op, move(10, 9)}, told))
	}
	var all []api.Op
	for _, g := range slices.Concat(s.givers(), s.wordless()) {
		all = append(all, append(g.ahead, g.op)...)
	}
	head := []api.Op{move(12, 0), get(9, 12, numbers)}
	fused := modelPass(charged(slices.Concat(head, all)...))
	s.wantRow(t, "all of them", slices.Concat(head, all, []api.Op{get(10, 12, numbers)}), slices.Concat(fused[1:], []api.Op{move(10, 9)}))
}

// P17.2: INext's D, A and B are given anew, all three: where one of them is the key's register or the one that has the value the read stays.
func TestNextBetween(t *testing.T) {
	var s sheet
	// Registers 5 to 8 are an integer, a text, a truth, and a truth.
	ahead := []api.Op{s.num(5, 0), s.text(6, "k"), be(7, 0), be(8, 0)}
	next := func(d, a, b, m int) api.Op { return op(api.INext, d, a, b, m) }
	for _, w := range []struct {
		what        string
		first, next api.Op
		isFused     bool
		t           api.Type
	}{
		{"A is the key", get(3, 5, numbers), next(9, 5, 7, numbers), false, intType},
		{"A is the key, of another map", get(3, 5, lines), next(9, 5, 7, truths), false, textType},
		{"A is the key, a text", get(3, 6, flags), next(9, 6, 7, counts), false, boolType},
		{"A is the value's", get(3, 5, numbers), next(9, 3, 7, numbers), false, intType},
		{"A is the value's, a text", get(3, 5, lines), next(9, 3, 7, texts), false, textType},
		{"B is the value's", get(3, 5, truths), next(9, 10, 3, numbers), false, boolType},
		{"B is the value's, at a text", get(3, 6, flags), next(9, 10, 3, truths), false, boolType},
		{"D is the value's", get(3, 5, truths), next(3, 10, 7, numbers), false, boolType},
		{"D and B are the value's", get(3, 5, truths), next(3, 10, 3, numbers), false, boolType},
		{"D is the value's, of another type", get(3, 5, numbers), next(3, 10, 7, numbers), false, intType},
		{"all are others", get(3, 5, numbers), next(9, 10, 7, numbers), true, intType},
		{"all are others, of another map", get(3, 5, pairs), next(9, 10, 8, lines), true, pair},
		{"all are others, D is B", get(3, 5, truths), next(8, 10, 8, truths), true, boolType},
		{"all are others, by a text", get(3, 6, heads), next(9, 6+5, 8, texts), true, pair},
	} {
		more := []api.Op{s.num(10, 1), s.text(11, "k1")}
		second := w.first
		second.D = 4
		was := slices.Concat(ahead, more, []api.Op{w.first, w.next, second}, s.toldFrom(w.t, 4))
		want := was
		if w.isFused {
			want = slices.Concat(ahead, more, []api.Op{w.first, w.next, move(4, 3)}, s.toldFrom(w.t, 4))
		}
		s.wantRow(t, w.what, was, want)
	}
	// A key and a truth in one register, or D in that of the key, there may be only where no way comes.
	for _, w := range []struct {
		what    string
		next    api.Op
		isFused bool
	}{
		{"D is the key", next(5, 10, 7, numbers), false}, {"B is the key", next(9, 10, 5, numbers), false}, {"all are the key", next(5, 5, 5, numbers), false}, {"D and A are the key", next(5, 5, 7, numbers), false},
		{"all are the value's", next(3, 3, 3, numbers), false}, {"D and A are the value's", next(3, 3, 7, numbers), false}, {"A and B are the value's", next(9, 3, 3, numbers), false}, {"the key and the value's", next(3, 5, 7, numbers), false}, {"all are one other", next(9, 9, 9, numbers), true},
	} {
		was := []api.Op{get(3, 5, numbers), w.next, get(4, 5, numbers)}
		want := slices.Clone(was)
		if w.isFused {
			want[2] = move(4, 3)
		}
		wantBlocks(t, w.what, s.unit(jump(2, charged()...), ret(-1, was...), ret(-1)), jump(2, charged()...), ret(-1, want...), ret(-1))
	}
}

// P17.2: instructions without a D give nothing, though D is 0; no register is a map, and no map a register.
func TestFieldsThatAreNotThere(t *testing.T) {
	var s sheet
	// The key is in register 3, the value in 0, map 0 is read.
	between := []api.Op{op(api.IEmit, 0, 1), op(api.ICharge), op(api.IEnter), op(api.ILeave), s.num(4, 7), op(api.IAfter, 0, 4, 1, onText), del(4, pairs), put(3, 2, truths)}
	read := func(d int) api.Op { return get(d, 3, numbers) }
	told := s.toldFrom(intType, 0, 6)
	s.wantRow(t, "D is 0", slices.Concat([]api.Op{s.num(3, 2), read(0)}, between, []api.Op{read(6)}, told), slices.Concat([]api.Op{s.num(3, 2), read(0)}, between, []api.Op{move(6, 0)}, told))
	// Maps have the same numbers as constants, records, fields, functions, handlers, and registers.
	for _, o := range [][]api.Op{
		{op(api.IInt, 9)}, {op(api.IMake, 9, 0, 0, 0), op(api.IField, 9, 9, 0, 0)}, {op(api.IHas, 9, 3, 0, numbers)}, {op(api.IAfter, 0, 0, 0, 0)}, {op(api.IAsk, 9, 1, 0, 0)}, {op(api.IText, 9)}, {be(9, 0)},
	} {
		was := slices.Concat([]api.Op{s.num(3, 2), s.text(12, "x"), read(5)}, o, []api.Op{read(6)})
		s.wantRow(t, "K is 0", was, slices.Concat(was[:len(was)-1], []api.Op{move(6, 5)}))
	}
	for _, o := range []api.Op{del(0, lines), del(3, lines), put(0, 2, truths), put(3, 2, truths)} {
		s.wantRow(t, "another map with A or K alike", []api.Op{s.num(3, 2), read(5), o, read(6)}, []api.Op{s.num(3, 2), read(5), o, move(6, 5)})
	}
	// What looks like a read but for its code isn't one.
	for _, code := range []int{api.IMove, api.INeg, api.IStr, api.IHas} {
		for _, row := range [][]api.Op{{get(5, 0, numbers), op(code, 6, 0)}, {op(code, 6, 0), get(5, 0, numbers)}, {get(5, 0, numbers), op(code, 5, 0)}, {op(code, 5, 0), op(code, 6, 0), op(code, 5, 0)}} {
			s.wantRow(t, "no read", row, row)
		}
	}
}
