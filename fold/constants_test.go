package fold_test

import (
	"fmt"
	"slices"
	"strings"
	"testing"

	"windlass/api"
	"windlass/fold"
)

const most = 1000 // constants of a sort

// crowd: e and the handlers behind it name these constants, each by an instruction that gives it and, if they are held, one that uses it; e does ops behind that.
func (s *sheet) crowd(values []api.Value, areHeld bool, ops ...api.Op) api.Unit {
	var rows [eventCount][]api.Op
	for i, v := range values {
		row := &rows[i*eventCount/len(values)]
		*row = append(*row, s.give(20, v))
		if areHeld {
			*row = append(*row, op(api.IDel, 0, 20, 0, map[int]int{api.Int: numbers, api.Text: texts}[v.Kind]))
		}
	}
	u := s.unitOf(append(rows[onE], ops...)...)
	for i := onInt; i < eventCount; i++ {
		u.Events[i] = graph(regs, ret(-1, charged(rows[i]...)...))
	}
	u.Ints, u.Texts = s.ints, s.texts
	return u
}

// manyInts, manyTexts: unlike one another, with those that function pair has.
func manyInts(count int) []api.Value {
	var list []api.Value
	for i := range count {
		list = append(list, numbered(int64(i)))
	}
	return list
}

func manyTexts(count int) []api.Value {
	list := []api.Value{texted("seven")}
	for i := 1; i < count; i++ {
		list = append(list, texted(fmt.Sprint(i)))
	}
	return list
}

// wantTold: that Pass tells u, as it is.
func wantTold(t *testing.T, what string, u api.Unit) {
	t.Helper()
	v := passedOnce(t, u)
	if shown(v) != shown(u) {
		t.Errorf("P14.1: %s: it isn't u", what)
	}
	if leftOver(u) == "" {
		t.Errorf("%s: there is nothing to be reckoned", what)
	}
}

// wantRoom: that Pass reckons, and tells no more constants than there may be.
func wantRoom(t *testing.T, what string, u api.Unit) api.Unit {
	t.Helper()
	v := passed(t, u)
	if leftOver(u) == "" {
		t.Errorf("%s: there is nothing to be reckoned", what)
	}
	c, folded := codeOf(t, u), codeOf(t, v)
	for _, r := range someRuns() {
		wantCodesAlike(t, c, folded, u, v, r)
	}
	return v
}

// P14.1: constants are those that are used: with 1000 of them there is room for one that is there, but for no other one.
func TestRoom(t *testing.T) {
	for _, areHeld := range []bool{false, true} {
		for _, w := range []struct {
			what   string
			values []api.Value
			ops    func(s *sheet) []api.Op
			fits   bool
		}{
			{"one less, an integer more", manyInts(most - 1), func(s *sheet) []api.Op { return []api.Op{s.num(3, 500), op(api.INeg, 4, 3)} }, true},
			{"all, an integer more", manyInts(most), func(s *sheet) []api.Op { return []api.Op{s.num(3, 500), op(api.INeg, 4, 3)} }, false},
			{"all, two integers more", manyInts(most), func(s *sheet) []api.Op { return []api.Op{s.num(3, 500), op(api.INeg, 4, 3), op(api.IMul, 4, 4, 4)} }, false},
			{"all, an integer that is there", manyInts(most), func(s *sheet) []api.Op { return []api.Op{s.num(3, 500), op(api.ISub, 4, 3, 3)} }, true},
			{"all integers, a text more", manyInts(most), func(s *sheet) []api.Op { return []api.Op{s.num(3, 500), op(api.IStr, 4, 3)} }, true},
			{"all integers, a truth more", manyInts(most), func(s *sheet) []api.Op { return []api.Op{s.num(3, 500), op(api.IEq, 4, 3, 3)} }, true},
			{"one less, a text more", manyTexts(most - 1), func(s *sheet) []api.Op { return []api.Op{s.text(3, "500"), op(api.ICat, 4, 3, 3)} }, true},
			{"all, a text more", manyTexts(most), func(s *sheet) []api.Op { return []api.Op{s.text(3, "500"), op(api.ICat, 4, 3, 3)} }, false},
			{"all, a text that is there", manyTexts(most), func(s *sheet) []api.Op { return []api.Op{s.num(3, 500), op(api.IStr, 4, 3)} }, true},
			{"all texts, an integer more", manyTexts(most), func(s *sheet) []api.Op { return []api.Op{s.text(3, "500"), op(api.ILen, 4, 3)} }, true},
			{"one less, a port, a text more", manyTexts(most - 1), func(s *sheet) []api.Op {
				return []api.Op{s.ask(5, 1, "port"), s.text(3, "500"), op(api.ICat, 4, 3, 3)}
			}, false},
			{"one less, a port that is there, a text more", manyTexts(most - 1), func(s *sheet) []api.Op {
				return []api.Op{s.ask(5, 1, "500"), s.text(3, "500"), op(api.ICat, 4, 3, 3)}
			}, true},
		} {
			s := &sheet{}
			u := s.crowd(w.values, areHeld, w.ops(s)...)
			if w.fits {
				wantRoom(t, w.what, u)
			} else {
				wantTold(t, w.what, u)
			}
		}
	}
}

// P14.1: what isn't used takes no room, and what is there twice takes it once.
func TestUnusedConstants(t *testing.T) {
	for _, fill := range []func(i int) (int64, string){
		func(i int) (int64, string) { return int64(i), fmt.Sprint("t", i) },
		func(i int) (int64, string) { return 77, "same" },
	} {
		var s sheet
		u := s.unitOf(s.ask(6, 1, "port"), s.num(3, 500), op(api.INeg, 4, 3), op(api.IStr, 5, 4), s.text(7, "same"), op(api.ICat, 7, 7, 7), op(api.IEmit, 0, 5))
		for i := 0; len(u.Ints) < most; i++ {
			n, _ := fill(i)
			u.Ints = append(u.Ints, n)
		}
		for i := 0; len(u.Texts) < most; i++ {
			_, x := fill(i)
			u.Texts = append(u.Texts, x)
		}
		v := wantRoom(t, "not used", u)
		want := []string{"charge", `ask D=6 A=1 "port"`, "int D=3 500", "int D=4 -500", `text D=5 "-500"`, `text D=7 "same"`, `text D=7 "samesame"`, "emit A=5"}
		if got := spelled(v, v.Events[onE].Blocks[0].Ops); !slices.Equal(got, want) {
			t.Errorf("P14.2: %q", got)
		}
	}
	// All of 1000 are used, each by an instruction of its own, but they are all alike.
	var s sheet
	u := s.unitOf(s.num(3, 500), op(api.INeg, 4, 3))
	ops := u.Events[onE].Blocks[0].Ops
	for len(u.Ints) < most {
		ops = append(ops, op(api.IInt, 5, 0, 0, len(u.Ints)))
		u.Ints = append(u.Ints, 8)
	}
	u.Events[onE].Blocks[0].Ops = ops
	wantRoom(t, "alike", u)
}

// P14.1: what is used in blocks to which nothing comes is used.
func TestRoomOfBlocksThatAreNotReached(t *testing.T) {
	for _, count := range []int{most - 2, most - 1} {
		var s sheet
		ops := []api.Op{s.num(3, 2), op(api.INeg, 4, 3)}
		u := s.unit(ret(-1, charged(ops...)...), ret(-1))
		for len(u.Ints) < count+1 {
			b := &u.Events[onE].Blocks[1]
			b.Ops = append(b.Ops, op(api.IInt, 5, 0, 0, len(u.Ints)))
			u.Ints = append(u.Ints, int64(1000+len(u.Ints)))
		}
		if len(u.Ints) < most {
			wantRoom(t, "one less", u)
		} else {
			wantTold(t, "not reached", u)
		}
	}
}

// P14.3: a long row of operators has more constants on its way than there may be; those that are only reckoned with are in nobody's way.
func TestLongRows(t *testing.T) {
	var s sheet
	sum := []api.Op{s.num(3, 7), s.num(4, 0)}
	for range 1900 {
		sum = append(sum, op(api.IAdd, 4, 4, 3))
	}
	u := s.unitOf(append(sum, s.tell(4, intType)...)...)
	v := wantRoom(t, "a sum", u)
	ops := v.Events[onE].Blocks[0].Ops
	n, isConstant := lastGiven(v, ops, 4)
	if !isConstant || n.Int != 7*1900 || !slices.Equal(spelled(v, ops), []string{"charge", "int D=3 7", "int D=4 13300", "int D=23 1", "after A=23 B=4 K=1"}) {
		t.Errorf("P14.3: %q", spelled(v, ops))
	}
	// Texts, as literals are written: each is given anew for the next one.
	s = sheet{}
	var row []api.Op
	for i := range 18 {
		row = append(row, s.text(3, fmt.Sprintf("%c", 'A'+i)))
		for j := range 50 {
			row = append(row, s.text(4, fmt.Sprint(j%10)), op(api.ICat, 3, 3, 4))
		}
		row = append(row, op(api.IEmit, 0, 3))
	}
	u = s.unitOf(row...)
	first := strings.Repeat("0123456789", 5)
	for i := range most/2 - len(u.Texts) {
		u.Events[onText].Blocks[0].Ops = append(u.Events[onText].Blocks[0].Ops, op(api.IText, 0, 0, 0, len(u.Texts)))
		u.Texts = append(u.Texts, fmt.Sprint("more", i))
	}
	v = wantRoom(t, "texts", u)
	if !slices.Contains(v.Texts, "R"+first) || len(v.Texts) > most {
		t.Errorf("P14.3: %d texts", len(v.Texts))
	}
}

// P14.1: of constants that are only reckoned with, those stay that something else uses, or that are there at the block's end; where that is too much, u is told.
func TestLongRowsThatAreWanted(t *testing.T) {
	long := func(s *sheet, between ...api.Op) []api.Op {
		ops := []api.Op{s.num(3, 7), s.num(4, 0), s.num(5, 1), be(6, 0)}
		for range 1100 {
			ops = append(ops, op(api.IAdd, 4, 4, 3))
		}
		return append(ops, between...)
	}
	var s sheet
	for _, w := range []struct {
		what string
		ops  []api.Op
	}{
		{"at the end", long(&s)},
		{"used ahead of it", slices.Concat([]api.Op{s.num(4, 3), op(api.INeg, 7, 4), op(api.IPut, 0, 4, 7, numbers)}, long(&s))},
		{"used behind it", long(&s, op(api.IPut, 0, 4, 3, numbers), s.num(4, 1), s.num(3, 1))},
		{"used by INext", long(&s, op(api.INext, 7, 4, 6, numbers), s.num(4, 1), be(6, 1))},
		{"given by INext", long(&s, op(api.INext, 6, 4, 6, numbers), op(api.IPut, 0, 4, 3, numbers))},
		{"used by a call", long(&s, op(api.ICall, 4, 4, 0, fnAdd), op(api.IPut, 0, 4, 3, numbers))},
		{"used by what traps", long(&s, op(api.ISub, 5, 5, 5), op(api.IDiv, 4, 4, 5), s.num(4, 1), s.num(5, 1))},
		{"used with what isn't known", long(&s, op(api.IWAdd, 4, 4, 0), op(api.IPut, 0, 4, 3, numbers), s.num(4, 1))},
		{"used and given at once", long(&s, op(api.IWMul, 4, 0, 4), op(api.IPut, 0, 4, 3, numbers))},
		{"used by another block", long(&s)},
	} {
		last := ret(-1, charged(slices.Concat(s.tell(3, intType), s.tell(4, intType))...)...)
		u := s.unit(unless(2, 1, 1, charged(w.ops...)...), last)
		wantRoom(t, w.what, u)
	}
	// A thousand more, each wanted.
	s = sheet{}
	u := s.crowd(manyInts(most), true, long(&s)...)
	wantTold(t, "a thousand more", u)
	if v, _ := fold.Pass(u); !slices.Equal(v.Ints, u.Ints) || !slices.Equal(v.Texts, u.Texts) {
		t.Error("P14.1: other constants")
	}
}
