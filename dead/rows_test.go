package dead_test

import (
	"fmt"
	"slices"
	"testing"
	"time"

	"windlass/api"
)

// P15.2: rows of instructions of which each is wanted by the next one alone: they go, if the last one isn't wanted, and stay, if it is.
func TestRows(t *testing.T) {
	var s sheet
	for _, w := range []struct {
		what string
		row  []api.Op
		t    api.Type
	}{
		{"moves", []api.Op{s.num(3, 1), move(4, 3), move(5, 4), move(6, 5), move(3, 6)}, intType},
		{"all that is named", []api.Op{
			s.num(3, 1), s.text(4, "p"), op(api.IMake, 5, 3, 0, 0), op(api.IField, 6, 5, 0, 1), op(api.ILen, 7, 6), op(api.IWAdd, 8, 7, 3), op(api.IWSub, 8, 8, 7), op(api.IWMul, 8, 8, 8), op(api.IGet, 9, 8, 0, numbers), op(api.IStr, 10, 9),
			op(api.IHas, 11, 10, 0, texts), op(api.INot, 12, 11), be(13, 1), op(api.IEq, 14, 12, 13), op(api.INe, 14, 14, 13), move(3, 14),
		}, boolType},
		{"comparisons", []api.Op{s.num(4, 1), op(api.ILt, 5, 4, 0), op(api.ILe, 6, 0, 4), op(api.INe, 7, 5, 6), op(api.IGt, 8, 1, 1), op(api.IEq, 9, 7, 8), op(api.IGe, 10, 0, 0), op(api.IEq, 3, 9, 10)}, boolType},
		{"a row of which each wants two", []api.Op{s.num(3, 1), s.num(4, 2), op(api.IWAdd, 5, 3, 4), op(api.IWAdd, 6, 4, 5), op(api.IWAdd, 7, 5, 6), op(api.IWAdd, 3, 6, 7)}, intType},
		{"one register", []api.Op{s.num(3, 5), op(api.IStr, 3, 3), op(api.ILen, 3, 3), op(api.IGet, 3, 3, 0, pairs), op(api.IField, 3, 3, 0, 1)}, textType},
	} {
		told := s.tell(3, w.t)
		s.wantRow(t, w.what, w.row, nil)
		s.wantRow(t, w.what+", wanted", slices.Concat(w.row, told), slices.Concat(w.row, told))
		s.wantRow(t, w.what+", given anew", slices.Concat(w.row, []api.Op{s.num(3, 7)}, s.tell(3, intType)), slices.Concat([]api.Op{s.num(3, 7)}, s.tell(3, intType)))
	}
	// What may trap in a row's middle stays, and what it wants; what is behind it goes.
	row := []api.Op{s.num(3, 1), op(api.IWAdd, 4, 3, 0), op(api.INeg, 5, 4), op(api.IStr, 6, 5), op(api.ILen, 7, 6)}
	s.wantRow(t, "a trap in the middle", row, row[:3])
}

// P15.2: rows that are laid over blocks.
func TestRowsOverBlocks(t *testing.T) {
	var s sheet
	a := s.emit("a")
	for _, isWanted := range []bool{false, true} {
		first, second, third, last := []api.Op{s.num(3, 1)}, []api.Op{move(4, 3)}, []api.Op{op(api.IStr, 5, 4)}, []api.Op{op(api.ILen, 6, 5)}
		told := []api.Op{}
		if isWanted {
			told = s.tell(6, intType)
		}
		build := func(rows ...[]api.Op) []api.Block {
			return []api.Block{
				unless(2, 1, 3, charged(rows[0]...)...), unless(2, 2, 4, rows[1]...), jump(5, rows[2]...), jump(4, slices.Concat(a, rows[1])...),
				jump(5, slices.Concat(a, rows[2])...), ret(-1, slices.Concat(rows[3], told)...),
			}
		}
		was := build(first, second, third, last)
		want := was
		if !isWanted {
			want = build(nil, nil, nil, nil)
		}
		wantBlocks(t, fmt.Sprint("a row, wanted: ", isWanted), s.unit(was...), want...)
	}
}

// P15.2: what is wanted behind the block's end by one way is wanted, whichever way that is, and not by the way on which it is given anew.
func TestWantedByOneWay(t *testing.T) {
	var s sheet
	one, two := s.num(3, 1), s.num(3, 2)
	told := s.tell(3, intType)
	anew := append([]api.Op{two}, told...)
	other := []api.Op{s.num(4, 6)}
	first := slices.Concat(other, []api.Op{one})
	for _, w := range []struct {
		what      string
		was, want []api.Block
	}{
		{"by To", []api.Block{unless(2, 1, 2, charged(first...)...), ret(-1, told...), ret(-1)}, []api.Block{unless(2, 1, 2, charged(one)...), ret(-1, told...), ret(-1)}},
		{"by Else", []api.Block{unless(2, 1, 2, charged(first...)...), ret(-1), ret(-1, told...)}, []api.Block{unless(2, 1, 2, charged(one)...), ret(-1), ret(-1, told...)}},
		{"by To, given anew by Else", []api.Block{unless(2, 1, 2, charged(first...)...), ret(-1, told...), ret(-1, anew...)}, []api.Block{unless(2, 1, 2, charged(one)...), ret(-1, told...), ret(-1, anew...)}},
		{"by Else, given anew by To", []api.Block{unless(2, 1, 2, charged(first...)...), ret(-1, anew...), ret(-1, told...)}, []api.Block{unless(2, 1, 2, charged(one)...), ret(-1, anew...), ret(-1, told...)}},
		{"by both", []api.Block{unless(2, 1, 2, charged(first...)...), ret(-1, told...), ret(-1, told...)}, []api.Block{unless(2, 1, 2, charged(one)...), ret(-1, told...), ret(-1, told...)}},
		{"by none", []api.Block{unless(2, 1, 2, charged(first...)...), ret(-1), ret(-1)}, []api.Block{unless(2, 1, 2, charged()...), ret(-1), ret(-1)}},
		{"given anew by both", []api.Block{unless(2, 1, 2, charged(first...)...), ret(-1, anew...), ret(-1, anew...)}, []api.Block{unless(2, 1, 2, charged()...), ret(-1, anew...), ret(-1, anew...)}},
		{"given anew by both, behind which ways meet", []api.Block{unless(2, 1, 2, charged(first...)...), jump(3, two), jump(3, s.num(3, 5)), ret(-1, told...)}, []api.Block{unless(2, 1, 2, charged()...), jump(3, two), jump(3, s.num(3, 5)), ret(-1, told...)}},
		{"given anew by one, behind which ways meet", []api.Block{unless(2, 1, 2, charged(first...)...), jump(3, two), jump(3), ret(-1, told...)}, []api.Block{unless(2, 1, 2, charged(one)...), jump(3, two), jump(3), ret(-1, told...)}},
		{"given anew, but not wanted any more", []api.Block{unless(2, 1, 2, charged(first...)...), ret(-1, slices.Concat(told, []api.Op{two})...), ret(-1, two)}, []api.Block{unless(2, 1, 2, charged(one)...), ret(-1, told...), ret(-1)}},
		{"blocks later", []api.Block{jump(1, charged(first...)...), unless(2, 2, 3, other...), unless(2, 3, 4), ret(-1), jump(5, other...), ret(-1, told...)}, []api.Block{jump(1, charged(one)...), unless(2, 2, 3), unless(2, 3, 4), ret(-1), jump(5), ret(-1, told...)}},
		{"the other one's register", []api.Block{unless(2, 1, 2, charged(one, s.num(4, 6))...), ret(-1, s.tell(4, intType)...), ret(-1, told...)}, []api.Block{unless(2, 1, 2, charged(one, s.num(4, 6))...), ret(-1, s.tell(4, intType)...), ret(-1, told...)}},
	} {
		wantBlocks(t, w.what, s.unit(w.was...), w.want...)
	}
}

// P15.2: an IUnless's register and that of an IRet with something are wanted at the block's end.
func TestWantedByTheEnd(t *testing.T) {
	var s sheet
	a, b := s.emit("a"), s.emit("b")
	row := []api.Op{op(api.IHas, 3, 0, 0, numbers), op(api.IHas, 4, 0, 0, pairs)}
	ends := []api.Block{ret(-1, a...), ret(-1, b...)}
	wantBlocks(t, "IUnless", s.unit(append([]api.Block{unless(4, 1, 2, charged(row...)...)}, ends...)...), append([]api.Block{unless(4, 1, 2, charged(row[1])...)}, ends...)...)
	wantBlocks(t, "IUnless, a block later", s.unit(append([]api.Block{jump(1, charged(row...)...), unless(3, 2, 3)}, ends...)...), append([]api.Block{jump(1, charged(row[0])...), unless(3, 2, 3)}, ends...)...)
	u := s.unit(ret(-1, slices.Concat(charged(s.num(3, 4), s.num(4, 5), op(api.ICall, 3, 3, 0, fnAdd)), s.tell(3, intType))...))
	for i, result := range []int{2, 3, 4} {
		rows := []api.Op{op(api.IWAdd, 2, 0, 1), op(api.IWSub, 3, 0, 1), op(api.IWMul, 4, 0, 1)}
		less := op(api.ILt, 5, 0, 1)
		u.Funcs[fnAdd] = graph(6, unless(5, 1, 2, charged(append(rows, less)...)...), ret(result), ret(0))
		v := passed(t, u)
		if got, want := v.Funcs[fnAdd].Blocks, []api.Block{unless(5, 1, 2, charged(rows[i], less)...), ret(result), ret(0)}; blocksSpelled(got) != blocksSpelled(want) {
			t.Errorf("P15.2: IRet %d:\n%s, want\n%s", result, blocksSpelled(got), blocksSpelled(want))
		}
		wantRunsAlike(t, u, v)
	}
}

// loop: a unit whose e goes round while register 0 is less than 5, each round one more; ahead and behind stand around it.
func (s *sheet) loop(ahead, round, behind []api.Op) []api.Block {
	begin := charged(append(slices.Clone(ahead), s.num(10, 1), s.num(11, 5))...)
	head := charged(op(api.ILt, 12, 0, 11))
	return []api.Block{jump(1, begin...), unless(12, 3, 2, head...), jump(1, append(slices.Clone(round), op(api.IWAdd, 0, 0, 10))...), ret(-1, append(s.emit("end"), behind...)...)}
}

// P15.2: around a loop: what the next round wants, and nothing else does.
func TestLoops(t *testing.T) {
	var s sheet
	told := s.tell(3, intType)
	one, two := s.num(3, 1), s.num(4, 2)
	for _, w := range []struct {
		what                  string
		ahead, round, behind  []api.Op
		ahead2, round2, last2 []api.Op
	}{
		{"what no round wants", nil, []api.Op{one, op(api.IWAdd, 4, 0, 3), move(5, 4)}, nil, nil, nil, nil},
		{"what the next round wants for nothing", []api.Op{one}, []api.Op{move(4, 3), op(api.IWAdd, 3, 0, 0)}, nil, nil, nil, nil},
		{"a row from round to round", []api.Op{one, two, s.num(5, 3)}, []api.Op{move(6, 5), move(5, 4), move(4, 3), move(3, 0)}, nil, nil, nil, nil},
		{"a count that nobody wants", []api.Op{one}, []api.Op{op(api.IWAdd, 3, 3, 10)}, nil, nil, nil, nil},
		{"two that want one another", []api.Op{one, two}, []api.Op{op(api.IWAdd, 3, 3, 4), op(api.IWMul, 4, 4, 3)}, nil, nil, nil, nil},
		{"a ring", []api.Op{one, two, s.num(5, 3)}, []api.Op{move(6, 5), move(5, 4), move(4, 3), move(3, 6)}, nil, nil, nil, nil},
		{"a count that is wanted behind", []api.Op{one}, []api.Op{op(api.IWAdd, 3, 3, 10)}, told, []api.Op{one}, []api.Op{op(api.IWAdd, 3, 3, 10)}, told},
		{"a ring that is wanted behind", []api.Op{one, two, s.num(5, 3)}, []api.Op{move(6, 5), move(5, 4), move(4, 3), move(3, 6)}, told, []api.Op{one, two, s.num(5, 3)}, []api.Op{move(6, 5), move(5, 4), move(4, 3), move(3, 6)}, told},
		{"what the next round wants", []api.Op{one}, []api.Op{op(api.IPut, 0, 3, 3, numbers), op(api.IWAdd, 3, 0, 0)}, nil, []api.Op{one}, []api.Op{op(api.IPut, 0, 3, 3, numbers), op(api.IWAdd, 3, 0, 0)}, nil},
		{"what the round after the next one wants", []api.Op{one, two}, []api.Op{op(api.IPut, 0, 4, 4, numbers), move(4, 3), op(api.IWAdd, 3, 0, 0)}, nil, []api.Op{one, two}, []api.Op{op(api.IPut, 0, 4, 4, numbers), move(4, 3), op(api.IWAdd, 3, 0, 0)}, nil},
		{"what may trap wants it", []api.Op{one}, []api.Op{op(api.IAdd, 3, 3, 3)}, nil, []api.Op{one}, []api.Op{op(api.IAdd, 3, 3, 3)}, nil},
		{"given anew at the round's beginning", []api.Op{two}, []api.Op{one, op(api.IPut, 0, 3, 0, numbers), op(api.IWAdd, 3, 3, 10)}, nil, nil, []api.Op{one, op(api.IPut, 0, 3, 0, numbers)}, nil},
		{"given anew at the round's beginning, wanted behind", []api.Op{one}, []api.Op{one, op(api.IPut, 0, 3, 0, numbers), op(api.IWAdd, 3, 3, 10)}, told, []api.Op{one}, []api.Op{one, op(api.IPut, 0, 3, 0, numbers), op(api.IWAdd, 3, 3, 10)}, told},
		{"given anew behind", []api.Op{one}, []api.Op{op(api.IWAdd, 3, 3, 10)}, append([]api.Op{one}, told...), nil, nil, append([]api.Op{one}, told...)},
		{"a key from round to round", []api.Op{one, be(4, 0)}, []api.Op{op(api.INext, 5, 3, 4, numbers), op(api.IStr, 6, 3)}, nil, []api.Op{one, be(4, 0)}, []api.Op{op(api.INext, 5, 3, 4, numbers)}, nil},
	} {
		want := s.loop(w.ahead2, w.round2, w.last2)
		wantBlocks(t, w.what, s.unit(s.loop(w.ahead, w.round, w.behind)...), want...)
	}
}

// P15.2: loops in one another; what the outer one's next round wants is wanted at the inner one's end.
func TestLoopsInLoops(t *testing.T) {
	var s sheet
	build := func(ahead, outer, inner, behind []api.Op) []api.Block {
		begin := charged(append(slices.Clone(ahead), s.num(10, 1), s.num(11, 3), s.num(13, -2))...)
		return []api.Block{
			jump(1, begin...), unless(12, 5, 2, charged(op(api.ILt, 12, 13, 11))...), jump(3, append(slices.Clone(outer), s.num(14, 0))...),
			unless(12, 1, 4, charged(op(api.ILt, 12, 14, 11), op(api.IWAdd, 13, 13, 10))...), jump(3, append(slices.Clone(inner), op(api.IWAdd, 14, 14, 10))...), ret(-1, behind...),
		}
	}
	one, two := s.num(3, 1), s.num(4, 2)
	told := s.tell(3, intType)
	for _, w := range []struct {
		what string
		rows [4][]api.Op
		want [4][]api.Op
	}{
		{"nobody wants it", [4][]api.Op{{one, two}, {move(3, 4)}, {op(api.IWAdd, 4, 4, 3)}, nil}, [4][]api.Op{}},
		{"wanted behind", [4][]api.Op{{one, two}, {move(3, 4)}, {op(api.IWAdd, 4, 4, 3)}, told}, [4][]api.Op{{one, two}, {move(3, 4)}, {op(api.IWAdd, 4, 4, 3)}, told}},
		{"the inner one wants it", [4][]api.Op{{one, two}, {op(api.IWAdd, 3, 3, 10), move(4, 3)}, {op(api.IPut, 0, 3, 3, numbers)}, nil}, [4][]api.Op{{one}, {op(api.IWAdd, 3, 3, 10)}, {op(api.IPut, 0, 3, 3, numbers)}, nil}},
		{"the outer one wants it", [4][]api.Op{{one, two}, {op(api.IPut, 0, 3, 3, numbers)}, {op(api.IWAdd, 3, 3, 10), move(4, 3)}, nil}, [4][]api.Op{{one}, {op(api.IPut, 0, 3, 3, numbers)}, {op(api.IWAdd, 3, 3, 10)}, nil}},
		{"given anew by the outer one", [4][]api.Op{{two}, {one}, {op(api.IPut, 0, 3, 3, numbers), op(api.IWAdd, 3, 3, 10)}, nil}, [4][]api.Op{nil, {one}, {op(api.IPut, 0, 3, 3, numbers), op(api.IWAdd, 3, 3, 10)}, nil}},
	} {
		wantBlocks(t, w.what, s.unit(build(w.rows[0], w.rows[1], w.rows[2], w.rows[3])...), build(w.want[0], w.want[1], w.want[2], w.want[3])...)
	}
}

// wantSoon: that Pass comes to its end, and not too late.
func wantSoon(t *testing.T, what string, u api.Unit) api.Unit {
	t.Helper()
	begun := time.Now()
	v := passed(t, u)
	if took := time.Since(begun); took > time.Minute {
		t.Errorf("%s: it took %v", what, took)
	}
	return v
}

// P15.2: rows as long as they may be.
func TestLongRows(t *testing.T) {
	var s sheet
	row := []api.Op{s.num(3, 1)}
	for i := range 1990 {
		row = append(row, op(api.IWAdd, 3+(i+1)%15, 3+i%15, 3+i%15))
	}
	v := wantSoon(t, "a row", s.unit(ret(-1, charged(row...)...)))
	if got := len(v.Events[onE].Blocks[0].Ops); got != 1 {
		t.Errorf("P15.2: %d instructions are left", got)
	}
	last := 3 + 1990%15
	u := s.unit(ret(-1, charged(append(row, s.tell(last, intType)...)...)...))
	if v := wantSoon(t, "a row that is wanted", u); shown(v) != shown(u) {
		t.Error("P15.2: something isn't left")
	}
}

// P15.2: as many blocks as there may be, laid so that what is wanted goes from one to the next against their order, and round again for each of the registers.
func TestManyBlocks(t *testing.T) {
	const count = 930
	for _, isWanted := range []bool{false, true} {
		var s sheet
		blocks := make([]api.Block, count)
		var first, shift []api.Op
		for r := range 60 {
			first = append(first, s.num(r, int64(r)))
			shift = append(shift, move(r, r+1))
		}
		first = append(first, s.num(60, 5))
		last := op(api.IHas, 61, 60, 0, numbers)
		if isWanted {
			shift = append([]api.Op{op(api.IPut, 0, 60, 0, numbers)}, shift...)
		}
		// From the first one to the last one, then back one by one to the second, and round from there.
		blocks[0] = jump(count-1, charged(first...)...)
		blocks[1] = unless(61, count-1, 2, charged(append(shift, last)...)...)
		for i := 2; i < count; i++ {
			blocks[i] = jump(i-1, charged()...)
		}
		u := s.unit(blocks...)
		u.Events[onE].Regs = api.MaxRegs
		v := wantSoon(t, "many blocks", u)
		want := slices.Clone(blocks)
		if !isWanted {
			want[0].Ops, want[1].Ops = charged(first[60]), charged(last)
		}
		if got := v.Events[onE].Blocks; blocksSpelled(got) != blocksSpelled(want) {
			t.Errorf("P15.2: wanted: %t:\n%s", isWanted, unitSpelled(v))
		}
		wantRunsAlike(t, u, v)
	}
}
