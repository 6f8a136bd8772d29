package heap_test

import (
	"math"
	"math/rand"
	"reflect"
	"slices"
	"strconv"
	"strings"
	"testing"

	"windlass/api"
	"windlass/heap"
	"windlass/value"
)

var (
	intType  = api.Type{Kind: api.Int}
	textType = api.Type{Kind: api.Text}
	boolType = api.Type{Kind: api.Bool}
	pairType = api.Type{Kind: api.Record, Rec: 1}
)

func integer(n int64) api.Value { return api.Value{Kind: api.Int, Int: n} }

func text(s string) api.Value { return api.Value{Kind: api.Text, Text: s} }

func truth(n int64) api.Value { return api.Value{Kind: api.Bool, Int: n} }

func record(rec int, fields ...api.Value) api.Value {
	return api.Value{Kind: api.Record, Rec: rec, Fields: fields}
}

func pair(n int64, s string) api.Value { return record(1, integer(n), text(s)) }

func entry(key, v api.Value) api.Entry { return api.Entry{Key: key, Value: v} }

func state(rows ...[]api.Entry) api.State { return api.State{Maps: rows} }

// program: three maps: int to text, text to bool, int to record 1.
func program() api.Program {
	return api.Program{
		Records: []api.RecordType{
			{Name: "One", Fields: []string{"only"}, Types: []api.Type{boolType}},
			{Name: "Pair", Fields: []string{"x", "s"}, Types: []api.Type{intType, textType}},
		},
		Maps: []api.MapType{
			{Name: "m", Key: intType, Value: textType},
			{Name: "n", Key: textType, Value: boolType},
			{Name: "o", Key: intType, Value: pairType},
		},
	}
}

// sample: a new state of program, its first map empty.
func sample() api.State {
	return state(
		nil,
		[]api.Entry{entry(text(""), truth(1)), entry(text("a"), truth(0)), entry(text("ab"), truth(1))},
		[]api.Entry{entry(integer(-3), pair(1, "x")), entry(integer(4), pair(2, "y"))},
	)
}

// counted: a row of so many entries with the keys 0, 10, 20 ..
func counted(count int) []api.Entry {
	var row []api.Entry
	for i := range count {
		row = append(row, entry(integer(int64(10*i)), text(strconv.Itoa(i))))
	}
	return row
}

// manyMaps: a program with so many maps, from int to text.
func manyMaps(count int) api.Program {
	var p api.Program
	for i := range count {
		p.Maps = append(p.Maps, api.MapType{Name: "m" + strconv.Itoa(i), Key: intType, Value: textType})
	}
	return p
}

// wrongPrograms: each but for one thing like program.
func wrongPrograms() map[string]api.Program {
	wrong := map[string]api.Program{"17 maps": manyMaps(17)}
	for what, change := range map[string]func(p *api.Program){
		"a map's name":        func(p *api.Program) { p.Maps[2].Name = "O" },
		"a name twice":        func(p *api.Program) { p.Maps[2].Name = "m" },
		"a key that is truth": func(p *api.Program) { p.Maps[0].Key = boolType },
		"no key":              func(p *api.Program) { p.Maps[0].Key = api.Type{} },
		"no value":            func(p *api.Program) { p.Maps[1].Value = api.Type{} },
		"no such record":      func(p *api.Program) { p.Maps[2].Value.Rec = 2 },
		"a record's name":     func(p *api.Program) { p.Records[0].Name = "one" },
		"a handler's result":  func(p *api.Program) { p.Events = []api.Sig{{Name: "e", Result: intType}} },
		"a function's name":   func(p *api.Program) { p.Funcs = []api.Sig{{Name: ""}} },
	} {
		p := program()
		change(&p)
		wrong[what] = p
	}
	return wrong
}

// sameLists holds lists against each other as reflect does, but a nil one is an empty one.
func sameLists(a, b api.State) bool {
	return slices.EqualFunc(a.Maps, b.Maps, func(x, y []api.Entry) bool {
		return slices.EqualFunc(x, y, func(e, f api.Entry) bool { return equal(e.Key, f.Key) && equal(e.Value, f.Value) })
	})
}

func equal(v, w api.Value) bool {
	return v.Kind == w.Kind && v.Int == w.Int && v.Text == w.Text && v.Rec == w.Rec && slices.EqualFunc(v.Fields, w.Fields, equal)
}

func wantState(t *testing.T, what string, got, want api.State) {
	t.Helper()
	if !sameLists(got, want) {
		t.Errorf("%s: %v, want %v", what, got, want)
	}
}

func wantValue(t *testing.T, what string, got api.Value, ok bool, want api.Value) {
	t.Helper()
	if !ok || !equal(got, want) {
		t.Errorf("%s: %v, %t, want %v, true", what, got, ok, want)
	}
}

func wantNone(t *testing.T, what string, got api.Value, ok bool) {
	t.Helper()
	if ok || !equal(got, api.Value{}) {
		t.Errorf("%s: %v, %t, want nothing, false", what, got, ok)
	}
}

func wantPut(t *testing.T, s api.State, m int, key, v api.Value, want api.State) {
	t.Helper()
	got, e := heap.Put(s, m, key, v)
	if e != api.OK || !sameLists(got, want) {
		t.Errorf("Put(%v, %d, %v, %v): %v, %d, want %v, 0", s, m, key, v, got, e, want)
	}
}

func wantNoPut(t *testing.T, s api.State, m int, key, v api.Value, want api.Errno) {
	t.Helper()
	got, e := heap.Put(s, m, key, v)
	if e != want || len(got.Maps) != 0 {
		t.Errorf("Put(%v, %d, %v, %v): %v, %d, want nothing, %d", s, m, key, v, got, e, want)
	}
}

// P4.1: as many empty maps as the program has.
func TestNew(t *testing.T) {
	for count := range 17 {
		p := manyMaps(count)
		s, e := heap.New(p)
		if e != api.OK || len(s.Maps) != count || !heap.Is(p, s) {
			t.Errorf("New of %d maps: %v, %d", count, s, e)
		}
		for m, row := range s.Maps {
			if len(row) != 0 {
				t.Errorf("map %d of %d has entries: %v", m, count, row)
			}
		}
	}
	if s, e := heap.New(program()); e != api.OK || len(s.Maps) != 3 || !heap.Is(program(), s) {
		t.Errorf("New: %v, %d", s, e)
	}
	p := program()
	p.Maps = nil
	if s, e := heap.New(p); e != api.OK || len(s.Maps) != 0 || !heap.Is(p, s) {
		t.Errorf("New without maps: %v, %d", s, e)
	}
}

// P4.1: programs that aren't Right have no state.
func TestWrongPrograms(t *testing.T) {
	for what, p := range wrongPrograms() {
		if value.Right(p) {
			t.Fatalf("%s: it is Right", what)
		}
		if s, e := heap.New(p); e != api.ErrHeapState || len(s.Maps) != 0 {
			t.Errorf("%s: New: %v, %d", what, s, e)
		}
		if heap.Is(p, api.State{Maps: make([][]api.Entry, len(p.Maps))}) || heap.Is(p, sample()) {
			t.Errorf("%s: Is", what)
		}
	}
}

// P4.1: states with as many maps as the program, one less, one more.
func TestIsByMaps(t *testing.T) {
	p := program()
	if !heap.Is(p, sample()) {
		t.Error("the sample isn't a state")
	}
	full := sample().Maps
	for _, s := range []api.State{{}, state(full[:1]...), state(full[:2]...), state(full[1:]...), state(full[0], full[1], full[2], nil), state(full[1], full[0], full[2])} {
		if heap.Is(p, s) {
			t.Errorf("Is(%v)", s)
		}
	}
	for count := range 20 {
		s := api.State{Maps: make([][]api.Entry, count)}
		for declared := range 17 {
			if heap.Is(manyMaps(declared), s) != (count == declared) {
				t.Errorf("%d maps, %d are declared: %t", count, declared, count != declared)
			}
		}
	}
}

// P4.1: up to MaxEntries in each map.
func TestIsByEntries(t *testing.T) {
	for _, m := range []int{0, 7, 15} {
		for count := range 30 {
			s := api.State{Maps: make([][]api.Entry, 16)}
			s.Maps[m] = counted(count)
			if heap.Is(manyMaps(16), s) != (count <= 24) {
				t.Errorf("%d entries in map %d: %t", count, m, count > 24)
			}
		}
	}
	all := slices.Repeat([][]api.Entry{counted(24)}, 16)
	if !heap.Is(manyMaps(16), api.State{Maps: all}) {
		t.Error("24 entries in each of 16 maps")
	}
}

// P4.1: keys that rise, fall, stand there twice.
func TestIsByOrder(t *testing.T) {
	p := program()
	least, greatest := integer(math.MinInt64), integer(math.MaxInt64)
	for _, row := range []struct {
		keys []api.Value
		want bool
	}{
		{[]api.Value{integer(1)}, true},
		{[]api.Value{integer(1), integer(2)}, true},
		{[]api.Value{least, integer(-1), integer(0), integer(1), greatest}, true},
		{[]api.Value{integer(2), integer(1)}, false},
		{[]api.Value{integer(1), integer(-2)}, false},
		{[]api.Value{greatest, least}, false},
		{[]api.Value{integer(1), integer(1)}, false},
		{[]api.Value{least, least}, false},
		{[]api.Value{integer(1), integer(2), integer(3), integer(3)}, false},
		{[]api.Value{integer(1), integer(2), integer(3), integer(2)}, false},
		{[]api.Value{integer(2), integer(1), integer(3)}, false},
	} {
		s := state(nil, nil, nil)
		for _, key := range row.keys {
			s.Maps[0] = append(s.Maps[0], entry(key, text("")))
		}
		if heap.Is(p, s) != row.want {
			t.Errorf("keys %v: %t", row.keys, !row.want)
		}
	}
	for _, row := range []struct {
		keys []string
		want bool
	}{
		{[]string{"", "\x00", "A", "a", "a\x00", "aa", "b", "\x80", "é", "\xFF"}, true},
		{[]string{"a", ""}, false},
		{[]string{"", ""}, false},
		{[]string{"a", "A"}, false},
		{[]string{"aa", "a"}, false},
		{[]string{"a", "b", "b"}, false},
		{[]string{"\x80", "z"}, false},
	} {
		s := state(nil, nil, nil)
		for _, key := range row.keys {
			s.Maps[1] = append(s.Maps[1], entry(text(key), truth(1)))
		}
		if heap.Is(p, s) != row.want {
			t.Errorf("keys %q: %t", row.keys, !row.want)
		}
	}
}

// P4.1: keys and values of the map's types, and others.
func TestIsByTypes(t *testing.T) {
	p := program()
	long, longest := text(strings.Repeat("z", api.MaxText+1)), text(strings.Repeat("z", api.MaxText))
	values := []api.Value{
		integer(1), text("a"), longest, truth(0), truth(1), record(0, truth(1)), pair(1, "a"),
		long, truth(2), {}, {Kind: 5}, {Kind: api.Int, Text: "a"}, {Kind: api.Text, Int: 1}, {Kind: api.Bool, Rec: 1}, {Kind: api.Int, Fields: []api.Value{{}}},
		record(0, truth(2)), record(0), record(1, text("a"), integer(1)), record(1, integer(1)), record(1, integer(1), long), record(2, integer(1), text("a")), record(1, integer(1), text("a"), integer(1)),
	}
	for m, declared := range p.Maps {
		key, v := value.Zero(p, declared.Key), value.Zero(p, declared.Value)
		for _, other := range values {
			s := state(nil, nil, nil)
			s.Maps[m] = []api.Entry{entry(other, v)}
			if want := value.Is(p, declared.Key, other); heap.Is(p, s) != want {
				t.Errorf("map %d, key %v: %t", m, other, !want)
			}
			s.Maps[m] = []api.Entry{entry(key, other)}
			if want := value.Is(p, declared.Value, other); heap.Is(p, s) != want {
				t.Errorf("map %d, value %v: %t", m, other, !want)
			}
		}
	}
	s := sample()
	s.Maps[2][1].Value = integer(1)
	if heap.Is(p, s) {
		t.Error("the last value is of another type")
	}
}

// P4.2: maps that there are not.
func TestNoSuchMap(t *testing.T) {
	s := sample()
	for _, m := range []int{-1, 3, 4, 16, math.MaxInt, math.MinInt} {
		what := "map " + strconv.Itoa(m)
		got, ok := heap.Get(s, m, integer(4))
		wantNone(t, what+": Get", got, ok)
		got, ok = heap.Next(s, m, integer(-9))
		wantNone(t, what+": Next", got, ok)
		got, ok = heap.First(s, m)
		wantNone(t, what+": First", got, ok)
		wantState(t, what+": Del", heap.Del(s, m, integer(4)), s)
		wantNoPut(t, s, m, integer(4), pair(0, ""), api.ErrHeapMap)
	}
	wantNoPut(t, api.State{}, 0, integer(1), integer(1), api.ErrHeapMap)
	wantState(t, "Del of no maps", heap.Del(api.State{}, 0, integer(1)), api.State{})
	full := state(counted(24))
	wantNoPut(t, full, 1, integer(1), text(""), api.ErrHeapMap)
	wantNoPut(t, full, -1, integer(1), text(""), api.ErrHeapMap)
}

// P4.2: a map without entries.
func TestEmptyMap(t *testing.T) {
	for _, row := range [][]api.Entry{nil, {}} {
		s := sample()
		s.Maps[0] = row
		got, ok := heap.Get(s, 0, integer(4))
		wantNone(t, "Get", got, ok)
		got, ok = heap.Next(s, 0, integer(math.MinInt64))
		wantNone(t, "Next", got, ok)
		got, ok = heap.First(s, 0)
		wantNone(t, "First", got, ok)
		wantState(t, "Del", heap.Del(s, 0, integer(4)), s)
		want := sample()
		want.Maps[0] = []api.Entry{entry(integer(4), text("q"))}
		wantPut(t, s, 0, integer(4), text("q"), want)
	}
}

// ladders: rows of keys that rise: integers, texts, and those of all kinds.
func ladders() [][]api.Value {
	texts := []string{"", "\x00", "A", "B", "a", "a\x00", "aa", "ab", "b", "z", "\x80", "é", "\xFF", strings.Repeat("\xFF", api.MaxText)}
	var ofTexts []api.Value
	for _, s := range texts {
		ofTexts = append(ofTexts, text(s))
	}
	return [][]api.Value{
		{integer(math.MinInt64), integer(math.MinInt64 + 1), integer(-300), integer(-2), integer(-1), integer(0), integer(1), integer(2), integer(255), integer(256), integer(1 << 40), integer(math.MaxInt64 - 1), integer(math.MaxInt64)},
		ofTexts,
		{{}, integer(-5), integer(5), text(""), text("b"), truth(0), truth(1), record(0), record(0, truth(1)), record(1, integer(1), text("a")), record(1, integer(1), text("b")), record(1, record(1)), {Kind: 9}},
	}
}

// chosen: of the keys those whose bits are set, with their numbers as values.
func chosen(keys []api.Value, bits int) []api.Entry {
	var row []api.Entry
	for i, key := range keys {
		if bits>>i&1 == 1 {
			row = append(row, entry(key, integer(int64(i))))
		}
	}
	return row
}

// wantAtKey holds every call at one of the keys against what stands in a map with those of bits.
func wantAtKey(t *testing.T, keys []api.Value, bits, at int) {
	t.Helper()
	s := state(counted(2), chosen(keys, bits), counted(3))
	got, ok := heap.Get(s, 1, keys[at])
	if bits>>at&1 == 1 {
		wantValue(t, "Get", got, ok, integer(int64(at)))
	} else {
		wantNone(t, "Get", got, ok)
	}
	next := at + 1
	for next < len(keys) && bits>>next&1 == 0 {
		next++
	}
	got, ok = heap.Next(s, 1, keys[at])
	if next < len(keys) {
		wantValue(t, "Next", got, ok, keys[next])
	} else {
		wantNone(t, "Next", got, ok)
	}
	wantState(t, "Del", heap.Del(s, 1, keys[at]), state(counted(2), chosen(keys, bits&^(1<<at)), counted(3)))
	put := chosen(keys, bits|1<<at)
	for i := range put {
		if equal(put[i].Key, keys[at]) {
			put[i].Value = pair(7, "new")
		}
	}
	wantPut(t, s, 1, keys[at], pair(7, "new"), state(counted(2), put, counted(3)))
}

// P4.2: every call ahead of the first key, at each key, between two, behind the last: with every choice of keys.
func TestEveryPlace(t *testing.T) {
	for _, keys := range ladders() {
		for bits := range 1 << 9 {
			for at := range 9 {
				wantAtKey(t, keys[:9], bits, at)
				wantAtKey(t, keys[len(keys)-9:], bits, at)
			}
			if t.Failed() {
				return
			}
		}
		for at := range keys {
			wantAtKey(t, keys, 0, at)
			wantAtKey(t, keys, 1<<len(keys)-1, at)
			wantAtKey(t, keys, 1<<at, at)
			wantAtKey(t, keys, 1<<len(keys)-1-1<<at, at)
		}
	}
}

// P4.2: First, and all keys by Next.
func TestFirstAndNext(t *testing.T) {
	for _, keys := range ladders() {
		for bits := range 1 << len(keys) {
			if bits > 600 && bits%97 != 0 {
				continue
			}
			row := chosen(keys, bits)
			s := state(row, chosen(keys, ^bits))
			key, ok := heap.First(s, 0)
			for _, want := range row {
				wantValue(t, "the next", key, ok, want.Key)
				key, ok = heap.Next(s, 0, key)
			}
			wantNone(t, "behind the last", key, ok)
			if t.Failed() {
				return
			}
		}
	}
}

// P4.2: the chapter's example.
func TestExample(t *testing.T) {
	s, _ := heap.New(program())
	s, _ = heap.Put(s, 0, integer(2), text("x"))
	s, _ = heap.Put(s, 0, integer(1), text("y"))
	wantState(t, "entries", s, state([]api.Entry{entry(integer(1), text("y")), entry(integer(2), text("x"))}, nil, nil))
	key, ok := heap.First(s, 0)
	wantValue(t, "First", key, ok, integer(1))
	key, ok = heap.Next(s, 0, integer(1))
	wantValue(t, "Next", key, ok, integer(2))
}

// P4.2: Put of new keys and of those that are there, in maps that are nearly full, full, and more than full.
func TestFullMap(t *testing.T) {
	for count := range 30 {
		row := counted(count)
		s := state(counted(24), row, counted(24))
		for at := range count + 1 {
			key := integer(int64(10*at - 5))
			if count < 24 {
				want := slices.Insert(counted(count), at, entry(key, text("new")))
				wantPut(t, s, 1, key, text("new"), state(counted(24), want, counted(24)))
			} else {
				wantNoPut(t, s, 1, key, text("new"), api.ErrHeapFull)
			}
		}
		for at := range count {
			want := counted(count)
			want[at].Value = text("new")
			wantPut(t, s, 1, row[at].Key, text("new"), state(counted(24), want, counted(24)))
		}
	}
	s := heap.Del(state(counted(24)), 0, integer(50))
	if s, e := heap.Put(s, 0, integer(51), text("new")); e != api.OK || len(s.Maps[0]) != 24 {
		t.Errorf("Put behind a Del in a map that was full: %v, %d", s, e)
	}
}

// P4.2: the same place of another map isn't touched, nor is the value told of another one.
func TestMapsAreApart(t *testing.T) {
	s := api.State{Maps: make([][]api.Entry, 16)}
	for m := range 16 {
		var e api.Errno
		if s, e = heap.Put(s, m, integer(1), text(strconv.Itoa(m))); e != api.OK {
			t.Fatalf("Put: %d", e)
		}
	}
	for m := range 16 {
		got, ok := heap.Get(s, m, integer(1))
		wantValue(t, "Get", got, ok, text(strconv.Itoa(m)))
		without := heap.Del(s, m, integer(1))
		for other := range 16 {
			got, ok := heap.Get(without, other, integer(1))
			if other == m {
				wantNone(t, "Get", got, ok)
			} else {
				wantValue(t, "Get", got, ok, text(strconv.Itoa(other)))
			}
		}
	}
}

// P4.3: states that are the same, and that differ in one thing.
func TestSame(t *testing.T) {
	others := map[string]api.State{
		"as it is":        sample(),
		"nothing":         {},
		"a map less":      state(sample().Maps[:2]...),
		"a map more":      state(append(sample().Maps, nil)...),
		"empty":           state(nil, nil, nil),
		"maps turned":     state(sample().Maps[1], sample().Maps[0], sample().Maps[2]),
		"an entry less":   heap.Del(sample(), 1, text("ab")),
		"the first less":  heap.Del(sample(), 1, text("")),
		"no entry":        state(nil, nil, sample().Maps[2]),
		"entries turned":  state(nil, []api.Entry{sample().Maps[1][1], sample().Maps[1][0], sample().Maps[1][2]}, sample().Maps[2]),
		"only the first":  state(nil, sample().Maps[1], nil),
		"not any map":     state(),
		"two empty maps":  state(nil, nil),
		"a key for value": state(nil, []api.Entry{entry(truth(1), text(""))}, nil),
	}
	for what, change := range map[string]func(s api.State){
		"a key":          func(s api.State) { s.Maps[2][1].Key = integer(5) },
		"the first key":  func(s api.State) { s.Maps[1][0].Key = text("\x00") },
		"a key's kind":   func(s api.State) { s.Maps[2][1].Key = truth(4) },
		"a value":        func(s api.State) { s.Maps[1][2].Value = truth(0) },
		"a field":        func(s api.State) { s.Maps[2][1].Value.Fields[1] = text("z") },
		"a field less":   func(s api.State) { s.Maps[2][0].Value = record(1, integer(1)) },
		"another record": func(s api.State) { s.Maps[2][0].Value.Rec = 0 },
	} {
		s := sample()
		change(s)
		others[what] = s
	}
	for what, a := range others {
		for other, b := range others {
			if want := sameLists(a, b); heap.Same(a, b) != want || want != (what == other || len(a.Maps)+len(b.Maps) == 0) {
				t.Errorf("Same(%s, %s): %t", what, other, heap.Same(a, b))
			}
		}
	}
	if !heap.Same(state(nil, []api.Entry{}), state([]api.Entry{}, nil)) || !heap.Same(api.State{}, state()) {
		t.Error("a nil list isn't an empty one")
	}
	if !heap.Same(state([]api.Entry{entry(record(0), record(1))}), state([]api.Entry{entry(api.Value{Kind: api.Record, Fields: []api.Value{}}, record(1))})) {
		t.Error("nil Fields aren't empty ones")
	}
}

// Odd states and values: every call ends, and values that are nested deep go in and out whole.
func TestOddStates(t *testing.T) {
	deep := integer(1)
	for range 1<<16 - 4 {
		deep = record(0, deep)
	}
	odd := []api.Value{{}, {Kind: -1}, {Kind: 1 << 40, Int: -1, Text: "a", Rec: -5, Fields: []api.Value{{}}}, integer(5), text(strings.Repeat("x", 1000)), record(99, record(98)), deep}
	states := []api.State{{}, state(nil), sample(), state(counted(1000))}
	fall := counted(30)
	slices.Reverse(fall)
	states = append(states, state(fall), state(append(counted(20), counted(20)...)))
	for _, v := range odd {
		states = append(states, state([]api.Entry{entry(v, v), entry(v, v)}, nil))
	}
	for _, s := range states {
		for _, v := range odd {
			for m := -1; m < 3; m++ {
				heap.Get(s, m, v)
				heap.Put(s, m, v, v)
				heap.Del(s, m, v)
				heap.Next(s, m, v)
				heap.First(s, m)
			}
		}
		heap.Is(program(), s)
		heap.Snapshot(program(), s)
	}
	wantPut(t, state(nil), 0, deep, deep, state([]api.Entry{entry(deep, deep)}))
	got, ok := heap.Get(state([]api.Entry{entry(deep, deep)}), 0, deep)
	wantValue(t, "Get", got, ok, deep)
}

// model: maps of one program, by the keys as they are printed.
type model []map[string]api.Entry

func (m model) state() api.State {
	var s api.State
	for _, held := range m {
		var row []api.Entry
		for _, e := range held {
			row = append(row, e)
		}
		slices.SortFunc(row, func(a, b api.Entry) int { return value.Compare(a.Key, b.Key) })
		s.Maps = append(s.Maps, row)
	}
	return s
}

func someValue(r *rand.Rand, typ api.Type) api.Value {
	switch typ.Kind {
	case api.Int:
		return integer(int64(r.Intn(40) - 20))
	case api.Text:
		return text(strings.Repeat(string([]byte{byte('a' + r.Intn(4))}), r.Intn(9)))
	case api.Bool:
		return truth(int64(r.Intn(2)))
	}
	return pair(int64(r.Intn(5)), strings.Repeat("s", r.Intn(3)))
}

// P4.4: behind any Puts and Dels each key has what was put last, in key order.
func TestPutsAndDels(t *testing.T) {
	r := rand.New(rand.NewSource(1))
	p := program()
	for range 40 {
		s, _ := heap.New(p)
		held := model{{}, {}, {}}
		for range 300 {
			m := r.Intn(3)
			key, v := someValue(r, p.Maps[m].Key), someValue(r, p.Maps[m].Value)
			name := value.Print(key)
			_, there := held[m][name]
			if r.Intn(4) == 0 {
				s = heap.Del(s, m, key)
				delete(held[m], name)
			} else if next, e := heap.Put(s, m, key, v); e == api.OK {
				s = next
				held[m][name] = entry(key, v)
			} else if e != api.ErrHeapFull || there || len(held[m]) != 24 {
				t.Fatalf("Put(%v, %d, %v): %d", s, m, key, e)
			}
			if want := held.state(); !sameLists(s, want) || !heap.Same(s, want) || !heap.Is(p, s) {
				t.Fatalf("%v, want %v", s, want)
			}
		}
	}
}

// copied by reflection alone, to hold what was handed in against later on, its spare room too.
func copied(v reflect.Value) reflect.Value {
	made := reflect.New(v.Type()).Elem()
	switch v.Kind() {
	case reflect.Slice:
		if v.IsNil() {
			return made
		}
		made.Set(reflect.MakeSlice(v.Type(), v.Cap(), v.Cap()))
		for i := range v.Cap() {
			made.Index(i).Set(copied(v.Slice(0, v.Cap()).Index(i)))
		}
		made.Set(made.Slice(0, v.Len()))
	case reflect.Struct:
		for i := range v.NumField() {
			made.Field(i).Set(copied(v.Field(i)))
		}
	default:
		made.Set(v)
	}
	return made
}

// everywhere hands on the address of each item of each list within v, those of the spare room too.
func everywhere(v reflect.Value, visit func(reflect.Value)) {
	switch v.Kind() {
	case reflect.Slice:
		whole := v.Slice(0, v.Cap())
		for i := range whole.Len() {
			visit(whole.Index(i))
			everywhere(whole.Index(i), visit)
		}
	case reflect.Struct:
		for i := range v.NumField() {
			everywhere(v.Field(i), visit)
		}
	}
}

// roomy: a state whose lists have spare room with something in it.
func roomy() api.State {
	junk := entry(record(3, integer(9), text("junk")), record(3, text("junk")))
	s := sample()
	for m, row := range s.Maps {
		for i := range row {
			fields := append(row[i].Value.Fields, text("junk"), integer(9))
			row[i].Value.Fields = fields[: len(fields)-2 : len(fields)]
		}
		row = append(row, junk, junk)
		s.Maps[m] = row[: len(row)-2 : len(row)]
	}
	maps := append(s.Maps, []api.Entry{junk})
	return state(maps[:3:4]...)
}

// oddRoomy: keys, too, have Fields.
func oddRoomy() api.State {
	s := roomy()
	s.Maps[2] = []api.Entry{entry(record(0, truth(0), text("k")), pair(1, "x")), entry(record(0, truth(1), text("k")), pair(2, "y")), entry(record(7, integer(1)), integer(3))}[:2]
	return s
}

// calls: each call that answers lists, at these arguments.
func calls(p api.Program, s api.State, key, v api.Value, b []byte) map[string]any {
	made := map[string]any{}
	made["New"], _ = heap.New(p)
	made["Snapshot"], _ = heap.Snapshot(p, s)
	made["Restore"], _ = heap.Restore(p, b)
	for m := -1; m <= 3; m++ {
		at := " of map " + strconv.Itoa(m)
		made["Get"+at], _ = heap.Get(s, m, key)
		made["Put"+at], _ = heap.Put(s, m, key, v)
		made["Del"+at] = heap.Del(s, m, key)
		made["Next"+at], _ = heap.Next(s, m, key)
		made["First"+at], _ = heap.First(s, m)
		if m == 0 || m == 1 {
			made["Put of a new one"+at], _ = heap.Put(s, m, record(9, text("last")), v)
		}
	}
	heap.Is(p, s)
	heap.Same(s, s)
	return made
}

// P4.2, P4.3: what is handed in stays as it is, its spare room too; what is answered shares no memory with it, nor with another answer, nor within itself.
func TestMemory(t *testing.T) {
	for _, s := range []api.State{roomy(), oddRoomy()} {
		for _, key := range []api.Value{integer(-3), integer(-9), integer(4), integer(9), record(0, truth(0), text("k")), record(0, truth(1), text("k")), record(0)} {
			wantApart(t, s, key)
		}
	}
}

func wantApart(t *testing.T, s api.State, key api.Value) {
	t.Helper()
	p, v := program(), record(5, append(make([]api.Value, 0, 4), integer(1), record(6, text("inner")))...)
	b, _ := heap.Snapshot(p, sample())
	given := reflect.ValueOf([]any{p, s, key, v, b})
	var before []reflect.Value
	for i := range given.Len() {
		before = append(before, copied(given.Index(i).Elem()))
	}
	answers := calls(p, s, key, v, b)
	owners := map[any]string{}
	for i := range given.Len() {
		if got := given.Index(i).Elem(); !reflect.DeepEqual(copied(got).Interface(), before[i].Interface()) || !reflect.DeepEqual(spare(got), spare(before[i])) {
			t.Errorf("what was handed in has changed: %v, it was %v", got, before[i])
		}
		everywhere(given.Index(i).Elem(), func(item reflect.Value) { owners[item.Addr().Interface()] = "what was handed in" })
	}
	for what, answer := range answers {
		everywhere(reflect.ValueOf(answer), func(item reflect.Value) {
			at := item.Addr().Interface()
			if owner, taken := owners[at]; taken {
				t.Errorf("%s at %v shares memory with %s", what, key, owner)
			}
			owners[at] = what
		})
	}
}

// spare: all items of all lists, those of the spare room too, one behind the other.
func spare(v reflect.Value) []any {
	var items []any
	everywhere(v, func(item reflect.Value) { items = append(items, item.Interface()) })
	return items
}

// P4.2: what is done with an answer is not to be seen in a state that was told before, nor in a later one.
func TestAnswersAreApart(t *testing.T) {
	s := sample()
	first, _ := heap.Put(s, 2, integer(0), pair(5, "five"))
	want := copied(reflect.ValueOf(first)).Interface().(api.State)
	second, _ := heap.Put(first, 2, integer(1), pair(6, "six"))
	third := heap.Del(first, 2, integer(0))
	same := heap.Del(first, 2, integer(77))
	got, _ := heap.Get(first, 2, integer(0))
	for _, answer := range []any{second, third, same, got} {
		everywhere(reflect.ValueOf(answer), func(item reflect.Value) {
			if v, ok := item.Addr().Interface().(*api.Value); ok {
				*v = text("changed")
			}
		})
	}
	for _, answer := range []api.State{second, third, same} {
		for _, row := range answer.Maps {
			for i := range row {
				row[i] = entry(text("changed"), text("changed"))
			}
			_ = append(row, entry(text("changed"), text("changed")))
		}
	}
	wantState(t, "what was told before", first, want)
	wantState(t, "what was handed in", s, sample())
	again, ok := heap.Get(first, 2, integer(0))
	wantValue(t, "Get again", again, ok, pair(5, "five"))
}

// P4.2: a call that answers an error, or nothing, leaves the state.
func TestStateStays(t *testing.T) {
	s := state(counted(24))
	heap.Put(s, 0, integer(1), text("new"))
	heap.Put(s, 1, integer(0), text("new"))
	heap.Put(s, 0, integer(0), text("new"))
	heap.Del(s, 0, integer(1))
	heap.Del(s, 0, integer(0))
	wantState(t, "the state", s, state(counted(24)))
}
