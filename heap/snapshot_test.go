package heap_test

import (
	"bytes"
	"math"
	"math/rand"
	"slices"
	"strings"
	"testing"

	"windlass/api"
	"windlass/codec"
	"windlass/heap"
	"windlass/value"
)

// spelled: the bytes of a state by the chapter's words, whether it is one or not.
func spelled(s api.State) []byte {
	var b []byte
	for _, row := range s.Maps {
		b = append(b, codec.PutUint(uint64(len(row)))...)
		for _, e := range row {
			key, _ := codec.PutValue(e.Key)
			v, _ := codec.PutValue(e.Value)
			b = slices.Concat(b, key, v)
		}
	}
	return b
}

func wantSnapshot(t *testing.T, p api.Program, s api.State, want []byte) {
	t.Helper()
	b, e := heap.Snapshot(p, s)
	if e != api.OK || !bytes.Equal(b, want) {
		t.Errorf("Snapshot(%v): %X, %d, want %X", s, b, e, want)
	}
	got, e := heap.Restore(p, b)
	if e != api.OK || !sameLists(got, s) || !heap.Same(got, s) {
		t.Errorf("Restore(%X): %v, %d, want %v", b, got, e, s)
	}
}

func wantNoRestore(t *testing.T, p api.Program, b []byte) {
	t.Helper()
	// What stands in the spare room behind the bytes isn't read.
	room := append(slices.Clone(b), make([]byte, 100)...)
	if got, e := heap.Restore(p, room[:len(b)]); e != api.ErrHeapState || len(got.Maps) != 0 {
		t.Errorf("Restore(%X): %v, %d, want nothing, 40", b, got, e)
	}
}

// P4.3: the bytes of states.
func TestSnapshot(t *testing.T) {
	p := program()
	wantSnapshot(t, api.Program{}, api.State{}, nil)
	wantSnapshot(t, p, state(nil, nil, nil), []byte{0, 0, 0})
	wantSnapshot(t, manyMaps(16), api.State{Maps: make([][]api.Entry, 16)}, make([]byte, 16))
	wantSnapshot(t, p, sample(), []byte{
		0,
		3, 2, 0, 3, 1, 2, 1, 'a', 3, 0, 2, 2, 'a', 'b', 3, 1,
		2, 1, 5, 4, 1, 2, 1, 2, 2, 1, 'x', 1, 8, 4, 1, 2, 1, 4, 2, 1, 'y',
	})
	edges := state([]api.Entry{entry(integer(math.MinInt64), text("")), entry(integer(math.MaxInt64), text(strings.Repeat("\xFF", api.MaxText)))}, nil, nil)
	wantSnapshot(t, p, edges, spelled(edges))
	full := api.State{Maps: slices.Repeat([][]api.Entry{counted(24)}, 16)}
	wantSnapshot(t, manyMaps(16), full, spelled(full))
}

// wrongStates: plain values, but no states of program.
func wrongStates() map[string]api.State {
	var pairs []api.Entry
	for i := range 25 {
		pairs = append(pairs, entry(integer(int64(i)), pair(1, "")))
	}
	return map[string]api.State{
		"nothing":         {},
		"a map less":      state(sample().Maps[:2]...),
		"a map more":      state(append(sample().Maps, nil)...),
		"25 entries":      state(counted(25), nil, nil),
		"25 of the last":  state(nil, nil, pairs),
		"a key twice":     state([]api.Entry{entry(integer(1), text("")), entry(integer(1), text(""))}, nil, nil),
		"keys that fall":  state([]api.Entry{entry(integer(1), text("")), entry(integer(0), text(""))}, nil, nil),
		"a key's type":    state([]api.Entry{entry(text("a"), text(""))}, nil, nil),
		"a value's type":  state([]api.Entry{entry(integer(1), truth(1))}, nil, nil),
		"another record":  state(nil, nil, []api.Entry{entry(integer(1), record(0, truth(1)))}),
		"too many fields": state(nil, nil, []api.Entry{entry(integer(1), record(1, integer(1), text(""), text("")))}),
		"too few fields":  state(nil, nil, []api.Entry{entry(integer(1), record(1, integer(1)))}),
		"a field's type":  state(nil, nil, []api.Entry{entry(integer(1), record(1, integer(1), integer(1)))}),
	}
}

// P4.3: what isn't a state of the program has no snapshot, and what would be its bytes are none.
func TestNoSnapshot(t *testing.T) {
	p := program()
	for what, s := range wrongStates() {
		if b, e := heap.Snapshot(p, s); e != api.ErrHeapState || len(b) != 0 {
			t.Errorf("%s: Snapshot: %X, %d", what, b, e)
		}
		wantNoRestore(t, p, spelled(s))
	}
	for _, v := range []api.Value{{}, truth(2), text(strings.Repeat("x", 65)), {Kind: api.Text, Int: 1}} {
		if b, e := heap.Snapshot(p, state([]api.Entry{entry(integer(1), v)}, nil, nil)); e != api.ErrHeapState || len(b) != 0 {
			t.Errorf("value %v: Snapshot: %X, %d", v, b, e)
		}
		if b, e := heap.Snapshot(p, state([]api.Entry{entry(v, text(""))}, nil, nil)); e != api.ErrHeapState || len(b) != 0 {
			t.Errorf("key %v: Snapshot: %X, %d", v, b, e)
		}
	}
}

// P4.3: of a program that isn't Right there is neither.
func TestSnapshotOfWrongProgram(t *testing.T) {
	for what, p := range wrongPrograms() {
		empty := api.State{Maps: make([][]api.Entry, len(p.Maps))}
		for _, s := range []api.State{empty, sample(), {}} {
			if b, e := heap.Snapshot(p, s); e != api.ErrHeapState || len(b) != 0 {
				t.Errorf("%s: Snapshot: %X, %d", what, b, e)
			}
			wantNoRestore(t, p, spelled(s))
		}
	}
	p := api.Program{Records: []api.RecordType{{Name: "R"}}}
	if b, e := heap.Snapshot(p, api.State{}); e != api.ErrHeapState || len(b) != 0 {
		t.Errorf("Snapshot: %X, %d", b, e)
	}
	wantNoRestore(t, p, nil)
}

// P4.3: bytes with one less, one more, and those that no state of the program has.
func TestNoRestore(t *testing.T) {
	p := program()
	for _, s := range []api.State{sample(), state(nil, nil, nil), state(counted(24), nil, nil)} {
		b := spelled(s)
		for size := range b {
			wantNoRestore(t, p, b[:size])
		}
		for c := range 256 {
			wantNoRestore(t, p, append(slices.Clone(b), byte(c)))
		}
	}
	for _, b := range [][]byte{
		nil, {0}, {0, 0}, {0, 0, 0, 0},
		{0x80, 0, 0, 0}, {0, 0, 0x80, 0},
		{25, 0, 0}, {24, 0, 0}, {1, 0, 0}, {0x80, 1, 0, 0},
		{0xFF, 0xFF, 0xFF, 0xFF, 0xFF, 0xFF, 0xFF, 0xFF, 0xFF, 1, 0, 0},
		{0xFF, 0xFF, 0xFF, 0xFF, 0xFF, 0xFF, 0xFF, 0xFF, 0xFF, 2, 0, 0},
		{1, 1, 0x82, 0, 2, 0, 0, 0},
		{1, 1, 2, 2, 0x80, 0, 0, 0},
		{1, 1, 2, 0, 0, 0}, {1, 5, 2, 2, 0, 0, 0}, {1, 1, 2, 2, 65, 0, 0},
	} {
		wantNoRestore(t, p, b)
	}
	wantNoRestore(t, api.Program{}, []byte{0})
	wantNoRestore(t, manyMaps(16), make([]byte, 15))
	wantNoRestore(t, manyMaps(16), make([]byte, 17))
	wantNoRestore(t, manyMaps(1), spelled(state(counted(25))))
	wantNoRestore(t, manyMaps(1), spelled(state(counted(200))))
}

// P4.3: each byte changed for each other one: another state with just these bytes, or none.
func TestChangedByte(t *testing.T) {
	p := program()
	for _, s := range []api.State{sample(), state(counted(3), nil, nil)} {
		for at := range spelled(s) {
			for c := range 256 {
				b := spelled(s)
				if b[at] == byte(c) {
					continue
				}
				b[at] = byte(c)
				got, e := heap.Restore(p, b)
				if e == api.ErrHeapState && len(got.Maps) == 0 {
					continue
				}
				if e != api.OK || !heap.Is(p, got) || heap.Same(got, s) || !bytes.Equal(spelled(got), b) {
					t.Fatalf("Restore(%X): %v, %d", b, got, e)
				}
			}
		}
	}
}

// shortStates: all states of two maps, int to text and int to bool, of at most eight bytes up to 3, by their bytes.
func shortStates() map[string]api.State {
	var texts []string
	for n := range 16 {
		two := string([]byte{byte(n / 4), byte(n % 4)})
		texts = append(texts, two, two[:1], "")
	}
	all := []api.State{state(nil, nil)}
	for key := int64(-2); key < 2; key++ {
		for _, s := range texts {
			all = append(all, state([]api.Entry{entry(integer(key), text(s))}, nil))
		}
		all = append(all, state(nil, []api.Entry{entry(integer(key), truth(0))}), state(nil, []api.Entry{entry(integer(key), truth(1))}))
	}
	byBytes := map[string]api.State{}
	for _, s := range all {
		byBytes[string(spelled(s))] = s
	}
	return byBytes
}

// P4.3: short rows of bytes, all of them: those that are restored are just those of states.
func TestShortBytes(t *testing.T) {
	p := manyMaps(2)
	p.Maps[1].Value = boolType
	states := shortStates()
	for size := range 9 {
		for n := range 1 << (2 * size) {
			b := make([]byte, size)
			for i := range b {
				b[i] = byte(n >> (2 * i) & 3)
			}
			want, is := states[string(b)]
			got, e := heap.Restore(p, b)
			if (e == api.OK) != is || !is && e != api.ErrHeapState || !sameLists(got, want) {
				t.Fatalf("Restore(%X): %v, %d, want %v, %t", b, got, e, want, is)
			}
		}
	}
}

// P4.4: the same entries have one snapshot, however they came to be.
func TestOneSnapshot(t *testing.T) {
	r := rand.New(rand.NewSource(2))
	p := program()
	for range 100 {
		held := model{{}, {}, {}}
		for m, declared := range p.Maps {
			for range r.Intn(24) {
				key := someValue(r, declared.Key)
				held[m][value.Print(key)] = entry(key, someValue(r, declared.Value))
			}
		}
		want := held.state()
		for range 5 {
			s := built(t, r, p, want)
			b, e := heap.Snapshot(p, s)
			if e != api.OK || !bytes.Equal(b, spelled(want)) || !heap.Same(s, want) {
				t.Fatalf("%v: %X, %d, want %v", s, b, e, want)
			}
			back, e := heap.Restore(p, b)
			if e != api.OK || !sameLists(back, want) {
				t.Fatalf("Restore(%X): %v, %d", b, back, e)
			}
		}
	}
}

// built: want by Puts in some order, with others in between that are put over or deleted.
func built(t *testing.T, r *rand.Rand, p api.Program, want api.State) api.State {
	t.Helper()
	s, _ := heap.New(p)
	put := func(m int, key, v api.Value) {
		next, e := heap.Put(s, m, key, v)
		if e != api.OK {
			t.Fatalf("Put(%v, %d, %v): %d", s, m, key, e)
		}
		s = next
	}
	for _, m := range r.Perm(len(want.Maps)) {
		row := want.Maps[m]
		for _, at := range r.Perm(len(row)) {
			if r.Intn(3) == 0 {
				put(m, row[at].Key, someValue(r, p.Maps[m].Value))
			}
			stranger := someValue(r, p.Maps[m].Key)
			if _, there := heap.Get(s, m, stranger); !there && r.Intn(3) == 0 {
				put(m, stranger, someValue(r, p.Maps[m].Value))
				s = heap.Del(s, m, stranger)
			}
			put(m, row[at].Key, row[at].Value)
		}
	}
	return s
}

// P4.3: what is restored shares no memory with the bytes.
func TestRestoredIsNew(t *testing.T) {
	p := program()
	b, _ := heap.Snapshot(p, sample())
	first, _ := heap.Restore(p, b)
	again, _ := heap.Restore(p, b)
	clear(b)
	wantState(t, "behind a change of the bytes", first, sample())
	first.Maps[2][0].Value.Fields[0] = text("changed")
	first.Maps[1][0] = entry(text("changed"), text("changed"))
	wantState(t, "behind a change of another one", again, sample())
	b, _ = heap.Snapshot(p, again)
	other, _ := heap.Snapshot(p, again)
	clear(b[:cap(b)])
	if want := spelled(sample()); !bytes.Equal(other, want) {
		t.Errorf("%X, want %X", other, want)
	}
}
