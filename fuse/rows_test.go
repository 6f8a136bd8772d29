package fuse_test

import (
	"fmt"
	"slices"
	"testing"

	"windlass/api"
)

// table: a map, the register in which a handler has a key of it, and what its values are.
type table struct {
	number, key int
	value       api.Type
}

// tables: maps of each sort of key and value.
func tables() []table {
	var list []table
	for number, m := range program().Maps {
		key := 0
		if m.Key == textType {
			key = 1
		}
		list = append(list, table{number, key, m.Value})
	}
	return list
}

// toldFrom: what stands in these registers is told.
func (s *sheet) toldFrom(t api.Type, registers ...int) []api.Op {
	var row []api.Op
	for _, r := range registers {
		row = append(row, s.tell(r, t)...)
	}
	return row
}

// row: a handler's instructions, and what they become.
type row struct {
	what      string
	was, want []api.Op
}

// P17.2, P17.3: reads of one map and register in a row, of each sort of map: by registers of all sorts.
func TestReads(t *testing.T) {
	var s sheet
	for _, m := range tables() {
		read := func(d int) api.Op { return get(d, m.key, m.number) }
		for _, w := range []row{
			{"one", []api.Op{read(3)}, []api.Op{read(3)}},
			{"another D", []api.Op{read(3), read(4)}, []api.Op{read(3), move(4, 3)}},
			{"another D, below", []api.Op{read(4), read(3)}, []api.Op{read(4), move(3, 4)}},
			{"the same D", []api.Op{read(3), read(3)}, []api.Op{read(3)}},
			{"the same D thrice", []api.Op{read(3), read(3), read(3)}, []api.Op{read(3)}},
			{"three", []api.Op{read(3), read(4), read(5)}, []api.Op{read(3), move(4, 3), move(5, 3)}},
			{"the first D again", []api.Op{read(3), read(4), read(3)}, []api.Op{read(3), move(4, 3)}},
			{"the second D again", []api.Op{read(3), read(4), read(4)}, []api.Op{read(3), move(4, 3)}},
			{"three, the first two of one D", []api.Op{read(3), read(3), read(4)}, []api.Op{read(3), move(4, 3)}},
			{"many", []api.Op{read(3), read(4), read(5), read(4), read(6), read(3), read(7)}, []api.Op{read(3), move(4, 3), move(5, 3), move(6, 3), move(7, 3)}},
			{"by another register with that key", []api.Op{move(8, m.key), read(3), get(4, 8, m.number)}, []api.Op{move(8, m.key), read(3), get(4, 8, m.number)}},
			{"by two registers, each twice", []api.Op{move(8, m.key), read(3), get(4, 8, m.number), read(5), get(6, 8, m.number)}, []api.Op{move(8, m.key), read(3), get(4, 8, m.number), move(5, 3), move(6, 4)}},
			{"the first D given anew", []api.Op{read(3), s.num(3, 1), read(4), move(3, 4)}, []api.Op{read(3), s.num(3, 1), read(4), move(3, 4)}},
			{"the first D given anew by a move of itself", []api.Op{read(3), move(3, 3), read(4)}, []api.Op{read(3), move(3, 3), read(4)}},
			{"the first D given anew, a second one has it", []api.Op{read(3), read(4), s.num(3, 1), read(5), move(3, 5)}, []api.Op{read(3), move(4, 3), s.num(3, 1), move(5, 4), move(3, 5)}},
			{"the second D given anew", []api.Op{read(3), read(4), s.num(4, 1), read(5), move(4, 5)}, []api.Op{read(3), move(4, 3), s.num(4, 1), move(5, 3), move(4, 5)}},
			{"the first D given anew, then read there", []api.Op{read(3), s.num(3, 1), read(3)}, []api.Op{read(3), s.num(3, 1), read(3)}},
			{"the first D given anew, then read there and again", []api.Op{read(3), s.num(3, 1), read(3), read(4)}, []api.Op{read(3), s.num(3, 1), read(3), move(4, 3)}},
			{"A given anew by itself", []api.Op{read(3), move(m.key, m.key), read(4)}, []api.Op{read(3), move(m.key, m.key), read(4)}},
			{"A given anew, then the same read twice", []api.Op{read(3), move(m.key, m.key), read(4), read(5)}, []api.Op{read(3), move(m.key, m.key), read(4), move(5, 4)}},
		} {
			what := fmt.Sprintf("map %d: %s", m.number, w.what)
			s.wantRow(t, what, w.was, w.want)
			told := s.toldFrom(m.value, 3)
			s.wantRow(t, what+", told", slices.Concat(w.was, told), slices.Concat(w.want, told))
		}
	}
}

// P17.2: other maps: each is read for itself, one of them may be read at what another one had.
func TestReadsOfUnlikeMaps(t *testing.T) {
	var s sheet
	for _, one := range tables() {
		for _, other := range tables() {
			if one == other || one.key != other.key {
				continue
			}
			a, b := func(d int) api.Op { return get(d, one.key, one.number) }, func(d int) api.Op { return get(d, one.key, other.number) }
			told := slices.Concat(s.tell(3, one.value), s.tell(4, other.value), s.tell(5, one.value), s.tell(6, other.value))
			s.wantRow(t, "two maps", []api.Op{a(3), b(4)}, []api.Op{a(3), b(4)})
			s.wantRow(t, "two maps, one D", []api.Op{a(3), b(3), a(4)}, []api.Op{a(3), b(3), a(4)})
			s.wantRow(t, "two maps, each twice", append([]api.Op{a(3), b(4), a(5), b(6)}, told...), append([]api.Op{a(3), b(4), move(5, 3), move(6, 4)}, told...))
			s.wantRow(t, "two maps, one in the other", append([]api.Op{a(3), b(4), b(6), a(5)}, told...), append([]api.Op{a(3), b(4), move(6, 4), move(5, 3)}, told...))
		}
	}
}

// P17.2: a read whose D is its own A gives that anew; one that isn't done any more gives nothing anew.
func TestReadsOfReads(t *testing.T) {
	var s sheet
	for _, m := range []table{{numbers, 0, intType}, {texts, 1, textType}} {
		a := m.key
		read := func(d, a int) api.Op { return get(d, a, m.number) }
		for _, w := range []row{
			{"D is A, first", []api.Op{read(a, a), read(3, a)}, []api.Op{read(a, a), read(3, a)}},
			{"D is A, first, then one more", []api.Op{read(a, a), read(3, a), read(4, a)}, []api.Op{read(a, a), read(3, a), move(4, 3)}},
			{"D is A, twice", []api.Op{read(a, a), read(a, a)}, []api.Op{read(a, a), read(a, a)}},
			{"D is A, thrice", []api.Op{read(a, a), read(a, a), read(a, a)}, []api.Op{read(a, a), read(a, a), read(a, a)}},
			{"D is A, second", []api.Op{read(3, a), read(a, a)}, []api.Op{read(3, a), move(a, 3)}},
			{"D is A, second, then one more", []api.Op{read(3, a), read(a, a), read(4, a)}, []api.Op{read(3, a), move(a, 3), read(4, a)}},
			{"D is A, second, then two more", []api.Op{read(3, a), read(a, a), read(4, a), read(5, a)}, []api.Op{read(3, a), move(a, 3), read(4, a), move(5, 4)}},
			{"from key to key", []api.Op{read(3, a), read(4, 3), read(5, 4), read(6, 5)}, []api.Op{read(3, a), read(4, 3), read(5, 4), read(6, 5)}},
			{"from key to key, twice", []api.Op{read(3, a), read(4, 3), read(5, a), read(6, 5)}, []api.Op{read(3, a), read(4, 3), move(5, 3), read(6, 5)}},
			{"from key to key, in the same registers", []api.Op{read(3, a), read(4, 3), read(3, a), read(5, 3)}, []api.Op{read(3, a), read(4, 3), move(5, 4)}},
			{"from key to key, in the same registers, thrice", []api.Op{read(3, a), read(4, 3), read(3, a), read(4, 3), read(3, a), read(5, 3), read(4, 3)}, []api.Op{read(3, a), read(4, 3), move(5, 4)}},
			{"from key to key, another key between", []api.Op{read(3, a), read(4, 3), move(3, a), read(5, 3)}, []api.Op{read(3, a), read(4, 3), move(3, a), read(5, 3)}},
			{"the key's register is given by a move for a read", []api.Op{move(8, a), read(3, a), read(4, 8), read(8, a), read(5, 8)}, []api.Op{move(8, a), read(3, a), read(4, 8), move(8, 3), read(5, 8)}},
			{"the first D is the second one's key, then given anew", []api.Op{read(3, a), read(3, 3), read(4, a)}, []api.Op{read(3, a), read(3, 3), read(4, a)}},
			{"round", []api.Op{read(3, a), read(a, 3), read(3, a), read(a, 3)}, []api.Op{read(3, a), read(a, 3), read(3, a), read(a, 3)}},
		} {
			told := s.toldFrom(m.value, a)
			s.wantRow(t, w.what, slices.Concat(w.was, told), slices.Concat(w.want, told))
		}
	}
}

// P17.2: between two reads their map is written, or another one is: at that key, at another one that may be it, at one that isn't there.
func TestWrittenBetween(t *testing.T) {
	var s sheet
	for _, m := range tables() {
		read := func(d int) api.Op { return get(d, m.key, m.number) }
		// Behind these registers 5 and 6 have such a key, 7 such a value.
		ahead := []api.Op{move(5, m.key), s.num(6, -7), s.num(9, 4), s.text(10, "ten"), op(api.IMake, 7, 9, 0, 0)}
		if m.key == 1 {
			ahead[1] = s.text(6, "six")
		}
		switch m.value {
		case intType:
			ahead = append(ahead, s.num(7, 77))
		case textType:
			ahead = append(ahead, s.text(7, "77"))
		case boolType:
			ahead = append(ahead, be(7, 1))
		}
		told := s.toldFrom(m.value, 3, 4, 11)
		for _, key := range []int{m.key, 5, 6} {
			for _, write := range []api.Op{put(key, 7, m.number), del(key, m.number)} {
				stays := slices.Concat(ahead, []api.Op{read(3), write, read(4), read(11)}, told)
				s.wantRow(t, "written between", stays, slices.Concat(ahead, []api.Op{read(3), write, read(4), move(11, 4)}, told))
				s.wantRow(t, "written ahead", slices.Concat(ahead, []api.Op{write, read(3), read(4), read(11)}, told), slices.Concat(ahead, []api.Op{write, read(3), move(4, 3), move(11, 3)}, told))
				s.wantRow(t, "written behind two", slices.Concat(ahead, []api.Op{read(3), read(4), write, read(11)}, told), slices.Concat(ahead, []api.Op{read(3), move(4, 3), write, read(11)}, told))
				s.wantRow(t, "written, with the same D", slices.Concat(ahead, []api.Op{read(3), write, read(3), move(4, 3), move(11, 3)}, told), slices.Concat(ahead, []api.Op{read(3), write, read(3), move(4, 3), move(11, 3)}, told))
			}
		}
		s.wantRow(t, "what was read is written", []api.Op{read(3), put(m.key, 3, m.number), read(4)}, []api.Op{read(3), put(m.key, 3, m.number), read(4)})
		for _, other := range tables() {
			if other.number == m.number {
				continue
			}
			between := []api.Op{get(12, other.key, other.number), put(other.key, 12, other.number), del(other.key, other.number)}
			for _, write := range [][]api.Op{between, between[:2], {between[2]}} {
				s.wantRow(t, "another map is written", slices.Concat([]api.Op{read(3)}, write, []api.Op{read(4)}), slices.Concat([]api.Op{read(3)}, write, []api.Op{move(4, 3)}))
			}
			// The one that is written is read anew, the other one isn't.
			was := []api.Op{read(3), get(12, other.key, other.number), del(m.key, m.number), get(13, other.key, other.number), read(4)}
			s.wantRow(t, "one of two is written", was, slices.Concat(was[:3], []api.Op{move(13, 12), read(4)}))
		}
	}
}

// P17.2: calls between two reads: whatever the function does, and whether its result is wanted; but not what is open or left.
func TestCallsBetween(t *testing.T) {
	var s sheet
	for _, m := range tables() {
		read := func(d int) api.Op { return get(d, m.key, m.number) }
		told := s.toldFrom(m.value, 3, 4)
		for _, call := range []api.Op{
			op(api.ICall, -1, 0, 0, fnNothing), op(api.ICall, -1, 10, 0, fnAdd), op(api.ICall, 12, 10, 0, fnAdd), op(api.ICall, -1, 1, 0, fnSay), op(api.ICall, 12, 1, 0, fnSay), op(api.ICall, 12, 0, 0, fnPair), op(api.ICall, 12, 2, 0, fnTruth),
			op(api.ICall, -1, 10, 0, fnSet), op(api.ICall, -1, 0, 0, fnWipe), op(api.ICall, 12, 0, 0, fnFetch),
		} {
			ahead := []api.Op{move(10, 0), s.num(11, 99)}
			was := slices.Concat(ahead, []api.Op{read(3), call, read(4)}, told)
			s.wantRow(t, "a call between", was, was)
			was = slices.Concat(ahead, []api.Op{read(3), read(5), call, read(4), read(6)}, told)
			s.wantRow(t, "a call between two and two", was, slices.Concat(ahead, []api.Op{read(3), move(5, 3), call, read(4), move(6, 4)}, told))
			was = slices.Concat(ahead, []api.Op{read(3), call, read(3), move(4, 3)}, told)
			s.wantRow(t, "a call between, with the same D", was, was)
		}
		in, out := op(api.IEnter), op(api.ILeave)
		for _, between := range [][]api.Op{{in, out}, {in, in, out, out}, {in, op(api.ICharge), out}, {in, out, in, move(6, 3), out}} {
			s.wantRow(t, "open calls between", slices.Concat([]api.Op{read(3)}, between, []api.Op{read(4)}, told), slices.Concat([]api.Op{read(3)}, between, []api.Op{move(4, 3)}, told))
		}
		s.wantRow(t, "read where a call is open", slices.Concat([]api.Op{in, read(3), out, read(4)}, told), slices.Concat([]api.Op{in, read(3), out, move(4, 3)}, told))
		s.wantRow(t, "read again where a call is open", slices.Concat([]api.Op{read(3), in, read(4), out}, told), slices.Concat([]api.Op{read(3), in, move(4, 3), out}, told))
	}
}

// P17.1, P17.2: the same map and register in unlike blocks: each block reads for itself, on whatever way one comes to it.
func TestBlocks(t *testing.T) {
	var s sheet
	for _, m := range tables() {
		read := func(d int) api.Op { return get(d, m.key, m.number) }
		told := s.toldFrom(m.value, 3, 4)
		two, one := []api.Op{read(3), read(4)}, []api.Op{read(3), move(4, 3)}
		for _, w := range []struct {
			what      string
			was, want []api.Block
		}{
			{"one behind the other", []api.Block{jump(1, charged(two...)...), ret(-1, slices.Concat(two, told)...)}, []api.Block{jump(1, charged(one...)...), ret(-1, slices.Concat(one, told)...)}},
			{"one each", []api.Block{jump(1, charged(read(3))...), ret(-1, append([]api.Op{read(4)}, told...)...)}, []api.Block{jump(1, charged(read(3))...), ret(-1, append([]api.Op{read(4)}, told...)...)}},
			{"the same D", []api.Block{jump(1, charged(read(3))...), ret(-1, read(3))}, []api.Block{jump(1, charged(read(3))...), ret(-1, read(3))}},
			{"two ways", []api.Block{unless(2, 1, 2, charged(two...)...), jump(3, two...), jump(3, read(4)), ret(-1, slices.Concat(two, told)...)}, []api.Block{unless(2, 1, 2, charged(one...)...), jump(3, one...), jump(3, read(4)), ret(-1, slices.Concat(one, told)...)}},
			{"written on one way", []api.Block{unless(2, 1, 2, charged(two...)...), jump(2, del(m.key, m.number)), ret(-1, slices.Concat(two, told)...)}, []api.Block{unless(2, 1, 2, charged(one...)...), jump(2, del(m.key, m.number)), ret(-1, slices.Concat(one, told)...)}},
			{"around a loop", []api.Block{jump(1, charged()...), unless(5, 2, 1, charged(read(3), del(m.key, m.number), read(4), read(6), op(api.INext, 5, 0, 2, numbers))...), ret(-1, told...)}, []api.Block{jump(1, charged()...), unless(5, 2, 1, charged(read(3), del(m.key, m.number), read(4), move(6, 4), op(api.INext, 5, 0, 2, numbers))...), ret(-1, told...)}},
			{"empty ones between", []api.Block{jump(1, charged(two...)...), jump(2), jump(3), ret(-1, two...)}, []api.Block{jump(1, charged(one...)...), jump(2), jump(3), ret(-1, one...)}},
			{"one that becomes one read alone", []api.Block{jump(1, charged()...), jump(2, read(3), read(3), read(3)), ret(-1)}, []api.Block{jump(1, charged()...), jump(2, read(3)), ret(-1)}},
			{"one to which no way comes", []api.Block{jump(2, charged(two...)...), jump(2, two...), ret(-1, told...)}, []api.Block{jump(2, charged(one...)...), jump(2, one...), ret(-1, told...)}},
			{"a key that is none, to which no way comes", []api.Block{jump(2, charged()...), ret(9, get(3, 2, m.number), get(4, 2, m.number), get(2, 2, m.number), get(5, 2, m.number)), ret(-1)}, []api.Block{jump(2, charged()...), ret(9, get(3, 2, m.number), move(4, 3), move(2, 3), get(5, 2, m.number)), ret(-1)}},
		} {
			wantBlocks(t, w.what, s.unit(w.was...), w.want...)
		}
	}
}

// P17.2: each function and each handler.
func TestEachFunction(t *testing.T) {
	var s sheet
	u := s.unit(ret(-1, charged()...))
	for fn := range fnCount + eventCount {
		v := s.unit(ret(-1, charged(s.num(3, 2))...))
		g := &v.Events[max(0, fn-fnCount)]
		if fn < fnCount {
			g = &v.Funcs[fn]
		}
		base := g.Regs
		b := &g.Blocks[len(g.Blocks)-1]
		g.Regs += 3
		was := slices.Clone(b.Ops)
		b.Ops = append(b.Ops, op(api.IInt, base), get(base+1, base, numbers), get(base+2, base, numbers))
		w := passed(t, v)
		got := graphs(w)[fn].Blocks
		want := append(slices.Clone(was), op(api.IInt, base), get(base+1, base, numbers), move(base+2, base+1))
		if fn == fnFetch {
			want[2] = move(2, 1)
		}
		if shown(got[len(got)-1].Ops) != shown(want) {
			t.Errorf("P17.2: function %d:\n%s", fn, blocksSpelled(got))
		}
		wantRunsAlike(t, v, w)
	}
	if v := passed(t, u); shown(v.Funcs[fnFetch].Blocks[0].Ops) != shown(charged(get(1, 0, numbers), move(2, 1))) {
		t.Errorf("P17.2: %s", unitSpelled(v))
	}
}

// P17.2: the registers at the edges of what there may be.
func TestEdgeRegisters(t *testing.T) {
	var s sheet
	for _, r := range []int{0, 1, 30, 31, 32, 33, 62, 63} {
		for _, other := range []int{63 - r, (r + 32) % 64} {
			key := (r + 7) % 64
			ahead := []api.Op{s.num(key, 4)}
			u := s.unit(ret(-1, charged(slices.Concat(ahead, []api.Op{get(r, key, numbers), get(other, key, numbers), put(other, r, numbers)})...)...))
			u.Events[onE].Regs = api.MaxRegs
			wantBlocks(t, fmt.Sprint("register ", r), u, ret(-1, charged(slices.Concat(ahead, []api.Op{get(r, key, numbers), move(other, r), put(other, r, numbers)})...)...))
		}
	}
	// All at once: each but the key's has the value; then all again, from the last one to the first.
	was := charged(get(1, 0, numbers))
	want := charged(get(1, 0, numbers))
	for r := 2; r < api.MaxRegs; r++ {
		was, want = append(was, get(r, 0, numbers)), append(want, move(r, 1))
	}
	for r := api.MaxRegs - 1; r > 0; r-- {
		was = append(was, get(r, 0, numbers))
	}
	u := s.unit(ret(-1, append(was, get(0, 0, numbers), get(0, 0, numbers))...))
	u.Events[onE].Regs = api.MaxRegs
	wantBlocks(t, "all", u, ret(-1, append(want, move(0, 1), get(0, 0, numbers))...))
}

// P17.1: rows as long as they may be, in as many functions as there may be.
func TestLongRows(t *testing.T) {
	var s sheet
	long := charged()
	for i := range 1990 {
		long = append(long, []api.Op{get(3+i%60, i%3, numbers), get(3+i%60, (i+1)%60, truths), op(api.IWAdd, 3+i%60, i%60, i%60), get(3+i*7%60, i*5%60, pairs)}[i*i%7%4])
	}
	u := s.unit(jump(1, charged()...), ret(-1))
	for fn, g := range slices.Concat(u.Funcs, u.Events) {
		// No way comes to the row, so that anything may be read.
		b := append(slices.Clone(g.Blocks), ret(-1, long...))
		list := u.Funcs
		if fn >= fnCount {
			list, fn = u.Events, fn-fnCount
		}
		list[fn] = graph(api.MaxRegs, b...)
	}
	v := wantSoon(t, "long rows", u)
	wantModel(t, u, v)
	row := []api.Op{get(3, 0, numbers)}
	u = s.unit(ret(-1, charged(slices.Repeat(row, 1990)...)...))
	if v := wantSoon(t, "one read", u); len(v.Events[onE].Blocks[0].Ops) != 2 {
		t.Errorf("P17.2: %s", unitSpelled(v))
	}
}
