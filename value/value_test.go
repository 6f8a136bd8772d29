package value_test

import (
	"math"
	"math/rand"
	"reflect"
	"slices"
	"strings"
	"testing"

	"windlass/api"
	"windlass/value"
)

func integer(n int64) api.Value { return api.Value{Kind: api.Int, Int: n} }

func text(s string) api.Value { return api.Value{Kind: api.Text, Text: s} }

func truth(n int64) api.Value { return api.Value{Kind: api.Bool, Int: n} }

func record(rec int, fields ...api.Value) api.Value {
	return api.Value{Kind: api.Record, Rec: rec, Fields: fields}
}

// equal holds what is answered against what is wanted, a nil list being an empty one.
func equal(v, w api.Value) bool {
	return v.Kind == w.Kind && v.Int == w.Int && v.Text == w.Text && v.Rec == w.Rec && slices.EqualFunc(v.Fields, w.Fields, equal)
}

// samples: plain values of each type of the program, a list a type.
func samples() map[api.Type][]api.Value {
	return map[api.Type][]api.Value{
		intType:     {integer(0), integer(1), integer(-1), integer(math.MaxInt64), integer(math.MinInt64)},
		textType:    {text(""), text("a"), text("\xFF\x00"), text(strings.Repeat("z", api.MaxText))},
		boolType:    {truth(0), truth(1)},
		recordOf(0): {record(0, truth(0)), record(0, truth(1))},
		recordOf(1): {record(1, integer(0), text("")), record(1, integer(-7), text(strings.Repeat("z", api.MaxText)))},
		recordOf(2): {record(2, text("a"), truth(1), integer(9)), record(2, text(""), truth(0), integer(math.MinInt64))},
	}
}

// strangers: what is of no type of the program.
func strangers() []api.Value {
	long := strings.Repeat("z", api.MaxText+1)
	return []api.Value{
		{}, {Kind: -1}, {Kind: 5}, {Kind: 1 << 40},
		{Kind: api.Int, Text: "a"}, {Kind: api.Int, Rec: 1}, {Kind: api.Int, Rec: -1}, {Kind: api.Int, Fields: []api.Value{integer(1)}},
		text(long), {Kind: api.Text, Int: 1}, {Kind: api.Text, Rec: 1}, {Kind: api.Text, Fields: []api.Value{text("a")}},
		truth(2), truth(-1), truth(math.MinInt64), {Kind: api.Bool, Text: "a"}, {Kind: api.Bool, Rec: 1}, {Kind: api.Bool, Fields: []api.Value{{}}},
		record(0), record(1), record(2), record(-1), record(3), record(15), record(16), record(3, truth(1)), record(-1, truth(1)), record(15, truth(1)),
		record(0, truth(2)), record(0, integer(1)), record(0, text("")), record(0, api.Value{}), record(0, truth(1), truth(1)), record(0, record(0, truth(1))),
		record(1, integer(1)), record(1, text("a"), integer(1)), record(1, integer(1), integer(1)), record(1, text("a"), text("a")), record(1, truth(1), text("a")),
		record(1, integer(1), text("a"), integer(1)), record(1, integer(1), text(long)), record(1, integer(1), api.Value{Kind: api.Text, Int: 1}), record(1, integer(1), record(1, integer(1), text("a"))),
		record(1, truth(1)), record(0, integer(1), text("a")), record(2, integer(1), text("a")),
		record(2, text("a"), truth(1)), record(2, text("a"), truth(1), integer(1), integer(1)), record(2, text("a"), truth(1), truth(1)), record(2, text("a"), integer(1), integer(1)),
		record(2, slices.Repeat([]api.Value{text("a")}, 12)...), record(2, slices.Repeat([]api.Value{text("a")}, 13)...),
		{Kind: api.Record, Int: 1, Fields: []api.Value{truth(1)}}, {Kind: api.Record, Text: "a", Fields: []api.Value{truth(1)}},
	}
}

// P3.2: values of every kind against types of every kind.
func TestIs(t *testing.T) {
	p := program()
	for typ, values := range samples() {
		for _, v := range values {
			for other := range samples() {
				if value.Is(p, other, v) != (other == typ) {
					t.Errorf("Is(%v, %v): %t", other, v, other != typ)
				}
			}
			for _, other := range noTypes() {
				if value.Is(p, other, v) {
					t.Errorf("Is(%v, %v)", other, v)
				}
			}
		}
	}
	for _, v := range strangers() {
		for _, typ := range slices.Concat(noTypes(), []api.Type{intType, textType, boolType, recordOf(0), recordOf(1), recordOf(2), {Kind: v.Kind, Rec: v.Rec}}) {
			if value.Is(p, typ, v) {
				t.Errorf("Is(%v, %v)", typ, v)
			}
		}
	}
}

// P3.2: records of MaxItems fields, each of them changed for another type.
func TestIsOfGreatRecord(t *testing.T) {
	p := many(16, 0, 0, 0)
	p.Records[15].Fields = strings.Split("abcdefghijkl", "")
	p.Records[15].Types = slices.Repeat([]api.Type{intType, textType, boolType}, 4)
	fields := slices.Repeat([]api.Value{integer(3), text("t"), truth(1)}, 4)
	if !value.Right(p) || !value.Is(p, recordOf(15), record(15, fields...)) {
		t.Errorf("not of its type: %v", fields)
	}
	for i := range fields {
		changed := slices.Clone(fields)
		changed[i] = fields[(i+1)%12]
		if value.Is(p, recordOf(15), record(15, changed...)) {
			t.Errorf("field %d of another type: %v", i, changed)
		}
		if value.Is(p, recordOf(15), record(15, fields[:i]...)) {
			t.Errorf("only %d fields", i)
		}
	}
}

// P3.2, P3.4: zeros, which are of their types.
func TestZero(t *testing.T) {
	p := program()
	for typ, want := range map[api.Type]api.Value{
		intType:     integer(0),
		textType:    text(""),
		boolType:    truth(0),
		recordOf(0): record(0, truth(0)),
		recordOf(1): record(1, integer(0), text("")),
		recordOf(2): record(2, text(""), truth(0), integer(0)),
	} {
		got := value.Zero(p, typ)
		if !equal(got, want) || !value.Is(p, typ, got) {
			t.Errorf("Zero(%v): %v, want %v", typ, got, want)
		}
	}
	for _, typ := range noTypes() {
		if got := value.Zero(p, typ); !equal(got, api.Value{}) {
			t.Errorf("Zero(%v): %v, want nothing", typ, got)
		}
	}
	if got := value.Zero(api.Program{}, recordOf(0)); !equal(got, api.Value{}) {
		t.Errorf("the zero of no record: %v", got)
	}
}

// P3.4: a Zero is of its type, in programs with records of every size.
func TestZeroIsOfItsType(t *testing.T) {
	r := rand.New(rand.NewSource(1))
	for range 2000 {
		p := many(1+r.Intn(16), 0, 0, 0)
		for i := range p.Records {
			count := 1 + r.Intn(12)
			p.Records[i].Fields = strings.Split("abcdefghijkl"[:count], "")
			p.Records[i].Types = nil
			for range count {
				p.Records[i].Types = append(p.Records[i].Types, api.Type{Kind: 1 + r.Intn(3)})
			}
		}
		if !value.Right(p) {
			t.Fatalf("not right: %v", p)
		}
		for i := range p.Records {
			zero := value.Zero(p, recordOf(i))
			if !value.Is(p, recordOf(i), zero) || len(zero.Fields) != len(p.Records[i].Fields) {
				t.Fatalf("Zero(%v, %d): %v", p, i, zero)
			}
		}
	}
}

// P3.1, P3.2: programs that may not be: every call ends, and no value of a record within a record is plain.
func TestProgramsThatMayNotBe(t *testing.T) {
	p := api.Program{Records: []api.RecordType{
		{Name: "", Fields: []string{"a", "b"}, Types: []api.Type{intType}},
		{Name: "R", Fields: []string{"a"}, Types: []api.Type{intType, textType}},
		{Name: "R", Fields: []string{"a"}, Types: []api.Type{recordOf(2)}},
		{Name: "S", Fields: []string{"a", "b"}, Types: []api.Type{recordOf(2), recordOf(3)}},
		{Name: "T", Fields: []string{"a"}, Types: []api.Type{{Kind: api.Int, Rec: 1}}},
		{Name: "U"},
	}}
	if value.Right(p) {
		t.Error("right")
	}
	for i, record := range p.Records {
		if got := value.Name(p, recordOf(i)); got != record.Name {
			t.Errorf("Name of record %d: %q", i, got)
		}
		if got := value.Zero(p, recordOf(i)); got.Kind != api.Record || got.Rec != i || len(got.Fields) != len(record.Fields) {
			t.Errorf("Zero of record %d: %v", i, got)
		}
	}
	if !value.Is(p, recordOf(5), record(5)) || !value.Is(p, recordOf(1), record(1, integer(1))) {
		t.Error("not as many fields as the record")
	}
	for _, v := range []api.Value{record(0, integer(1)), record(0, integer(1), api.Value{}), record(0, integer(1), integer(1)), record(1, integer(1), text("a")), record(2, record(2)), record(2, integer(1)), record(4, integer(1)), record(4, api.Value{Kind: api.Int, Rec: 1}), record(5, integer(1))} {
		if value.Is(p, recordOf(v.Rec), v) {
			t.Errorf("Is(%v)", v)
		}
	}
}

// compared is Compare by the chapter's words, step by step.
func compared(a, b api.Value) int {
	sign := func(less, greater bool) int {
		if less {
			return -1
		}
		if greater {
			return 1
		}
		return 0
	}
	steps := []int{sign(a.Kind < b.Kind, a.Kind > b.Kind), sign(a.Int < b.Int, a.Int > b.Int)}
	for i := 0; i < len(a.Text) && i < len(b.Text); i++ {
		steps = append(steps, sign(a.Text[i] < b.Text[i], a.Text[i] > b.Text[i]))
	}
	steps = append(steps, sign(len(a.Text) < len(b.Text), len(a.Text) > len(b.Text)), sign(a.Rec < b.Rec, a.Rec > b.Rec))
	for i := 0; i < len(a.Fields) && i < len(b.Fields); i++ {
		steps = append(steps, compared(a.Fields[i], b.Fields[i]))
	}
	steps = append(steps, sign(len(a.Fields) < len(b.Fields), len(a.Fields) > len(b.Fields)))
	for _, step := range steps {
		if step != 0 {
			return step
		}
	}
	return 0
}

func wantOrder(t *testing.T, a, b api.Value, want int) {
	t.Helper()
	if got, back := value.Compare(a, b), value.Compare(b, a); got != want || back != -want {
		t.Errorf("Compare(%v, %v): %d, and %d the other way, want %d", a, b, got, back, want)
	}
	if value.Same(a, b) != (want == 0) || value.Same(b, a) != (want == 0) {
		t.Errorf("Same(%v, %v): %t", a, b, want != 0)
	}
}

// rising: each is less than those behind it, by one of the steps.
func rising() []api.Value {
	return []api.Value{
		{Kind: math.MinInt64}, {Kind: -1, Int: 9}, {Kind: 0, Int: -1}, {}, {Kind: 0, Int: 1},
		integer(math.MinInt64), integer(-2), integer(-1), integer(0),
		integer(1), integer(1 << 40), integer(math.MaxInt64),
		text(""), text("\x00"), text("\x00\x00"), text("A"), text("B"), text("a"), text("a\x00"), text("aa"), text("ab"), text("b"), text("z"), text("z\x7F"), text("z\x80"), text("z\xFF"), text("\x80"), text("é"), text("\xFF"), text("\xFFa"),
		{Kind: api.Text, Int: 1}, {Kind: api.Text, Int: 1, Text: "a"}, {Kind: api.Text, Int: 2},
		truth(-1), truth(0), truth(1), truth(2),
		{Kind: api.Record, Int: -1, Rec: 9}, record(-1, integer(9)), record(0), record(0, api.Value{}), record(0, integer(1)), record(0, integer(1), integer(1)), record(0, integer(1), integer(2)), record(0, integer(1), text("")), record(0, integer(2)), record(0, text("a")), record(0, text("a"), integer(0)), record(0, text("aa")), record(0, truth(1)), record(0, truth(1), integer(5)),
		record(0, record(0)), record(0, record(0, integer(1))), record(0, record(0, integer(1)), integer(1)), record(0, record(0, integer(1)), integer(2)), record(0, record(0, integer(2))), record(0, record(0, integer(2), integer(0))), record(0, record(1)), record(0, record(1, record(1))), record(0, record(1, record(2))),
		record(1), record(1, integer(0)), record(2), record(math.MaxInt64),
		{Kind: api.Record, Text: "a", Rec: -5}, {Kind: api.Record, Text: "a"}, {Kind: api.Record, Text: "b", Rec: -9}, {Kind: api.Record, Int: 1, Rec: -9},
		{Kind: 5}, {Kind: math.MaxInt64},
	}
}

// P3.2: Compare by each of its steps, both ways.
func TestCompare(t *testing.T) {
	list := rising()
	for i, a := range list {
		for k, b := range list {
			want := 0
			if i < k {
				want = -1
			} else if i > k {
				want = 1
			}
			if compared(a, b) != want {
				t.Fatalf("the list doesn't rise: %v, %v", a, b)
			}
			wantOrder(t, a, b, want)
		}
	}
}

// P3.2: a step ahead is all that counts, whatever stands in those behind it.
func TestCompareFirstStep(t *testing.T) {
	wantOrder(t, api.Value{Kind: 1, Int: 9, Text: "z", Rec: 9, Fields: []api.Value{integer(9), integer(9)}}, api.Value{Kind: 2}, -1)
	wantOrder(t, api.Value{Kind: 4, Int: 1, Text: "z", Rec: 9, Fields: []api.Value{integer(9)}}, api.Value{Kind: 4, Int: 2}, -1)
	wantOrder(t, api.Value{Kind: 4, Int: 1, Text: "a", Rec: 9, Fields: []api.Value{integer(9)}}, api.Value{Kind: 4, Int: 1, Text: "b"}, -1)
	wantOrder(t, api.Value{Kind: 4, Text: "a", Rec: 1, Fields: []api.Value{integer(9)}}, api.Value{Kind: 4, Text: "a", Rec: 2}, -1)
	wantOrder(t, record(1, integer(1), integer(9), integer(9)), record(1, integer(2)), -1)
	twelve := slices.Repeat([]api.Value{text("a")}, 12)
	late := slices.Clone(twelve)
	late[11] = text("b")
	wantOrder(t, record(0, twelve...), record(0, late...), -1)
	wantOrder(t, record(0, twelve[:11]...), record(0, twelve...), -1)
	wantOrder(t, record(0, late...), record(0, twelve[:11]...), 1)
	wantOrder(t, record(0, twelve...), record(0, slices.Clone(twelve)...), 0)
	wantOrder(t, record(0), api.Value{Kind: api.Record, Fields: []api.Value{}}, 0)
	wantOrder(t, api.Value{Kind: 1, Fields: []api.Value{integer(1)}}, api.Value{Kind: 1, Fields: []api.Value{integer(2)}}, -1)
}

func someValue(r *rand.Rand, depth int) api.Value {
	v := api.Value{Kind: r.Intn(3) + 2*(depth%2)}
	if r.Intn(3) == 0 {
		v.Int = int64(r.Intn(3) - 1)
	}
	if r.Intn(3) == 0 {
		v.Text = []string{"", "a", "ab", "b", "\x80", "a\xFF"}[r.Intn(6)]
	}
	if r.Intn(3) == 0 {
		v.Rec = r.Intn(3) - 1
	}
	for depth > 0 && r.Intn(3) > 0 {
		v.Fields = append(v.Fields, someValue(r, depth-1))
	}
	return v
}

// P3.4: Compare is an order: it is like the chapter's steps, turns round, goes on from one to the next, and is 0 between what is alike alone.
func TestCompareIsAnOrder(t *testing.T) {
	r := rand.New(rand.NewSource(2))
	for range 60000 {
		a, b, c := someValue(r, r.Intn(4)), someValue(r, r.Intn(4)), someValue(r, r.Intn(4))
		if r.Intn(2) == 0 {
			b.Kind, b.Int, b.Text, b.Rec = a.Kind, a.Int, a.Text, a.Rec
			c.Kind, c.Int, c.Text, c.Rec = a.Kind, a.Int, a.Text, a.Rec
		}
		ab, bc, ac := value.Compare(a, b), value.Compare(b, c), value.Compare(a, c)
		if ab != compared(a, b) || value.Compare(b, a) != -ab || value.Compare(a, a) != 0 {
			t.Fatalf("%v, %v: %d, %d", a, b, ab, value.Compare(b, a))
		}
		if (ab == 0) != equal(a, b) || value.Same(a, b) != equal(a, b) {
			t.Fatalf("%v, %v: %d, %t", a, b, ab, value.Same(a, b))
		}
		if ab <= 0 && bc <= 0 && (ac > 0 || ac == 0 && (ab < 0 || bc < 0)) {
			t.Fatalf("%v, %v, %v: %d, %d, %d", a, b, c, ab, bc, ac)
		}
	}
}

// P3.3: how values are printed.
func TestPrint(t *testing.T) {
	for _, row := range []struct {
		v    api.Value
		want string
	}{
		{integer(0), `0`}, {integer(-1), `-1`}, {integer(1234567890), `1234567890`},
		{integer(math.MaxInt64), `9223372036854775807`}, {integer(math.MinInt64), `-9223372036854775808`},
		{api.Value{Kind: api.Int, Int: 3, Text: "x", Rec: 4, Fields: []api.Value{integer(1)}}, `3`},
		{text(""), `""`}, {text("a"), `"a"`}, {text(`"`), `""""`}, {text(`""`), `""""""`}, {text(`a"b`), `"a""b"`}, {text(`"a"`), `"""a"""`},
		{text("\\\n\x00\xFFé'"), "\"\\\n\x00\xFFé'\""}, {text(strings.Repeat(`"`, 64)), strings.Repeat(`"`, 130)}, {text(strings.Repeat("z", 1000)), `"` + strings.Repeat("z", 1000) + `"`},
		{truth(1), `true`}, {truth(0), `false`}, {truth(2), `false`}, {truth(-1), `false`}, {truth(math.MinInt64), `false`},
		{record(0), `#0{}`}, {record(15), `#15{}`}, {record(-3), `#-3{}`}, {record(math.MinInt64), `#-9223372036854775808{}`},
		{record(1, integer(2), text("a")), `#1{2, "a"}`}, {record(1, truth(1)), `#1{true}`}, {record(2, text(`"`), truth(0), integer(-5)), `#2{"""", false, -5}`},
		{record(1, record(2), record(3, integer(1), record(4, text(`,"`)))), `#1{#2{}, #3{1, #4{","""}}}`},
		{record(1, api.Value{}, api.Value{Kind: 7}), `#1{?, ?}`},
		{api.Value{}, `?`}, {api.Value{Kind: 5}, `?`}, {api.Value{Kind: -1}, `?`}, {api.Value{Kind: 1 << 40, Int: 1, Text: "a", Fields: []api.Value{integer(1)}}, `?`},
	} {
		if got := value.Print(row.v); got != row.want {
			t.Errorf("Print(%v): %s, want %s", row.v, got, row.want)
		}
	}
}

// P3.3: how types are named.
func TestName(t *testing.T) {
	p := program()
	for typ, want := range map[api.Type]string{intType: "int", textType: "text", boolType: "bool", recordOf(0): "One", recordOf(1): "Pair", recordOf(2): "All"} {
		if got := value.Name(p, typ); got != want {
			t.Errorf("Name(%v): %s, want %s", typ, got, want)
		}
	}
	for _, typ := range noTypes() {
		if got := value.Name(p, typ); got != "none" {
			t.Errorf("Name(%v): %s, want none", typ, got)
		}
	}
	if got := value.Name(api.Program{}, recordOf(0)); got != "none" {
		t.Errorf("the name of no record: %s", got)
	}
}

// Values that are nested deep are compared and printed to their end.
func TestDeep(t *testing.T) {
	const depth = 1 << 16
	a, b := integer(1), integer(2)
	for range depth - 1 {
		a, b = record(0, a), record(0, b)
	}
	wantOrder(t, a, b, -1)
	wantOrder(t, a, a, 0)
	if got := value.Print(a); got != strings.Repeat("#0{", depth-1)+"1"+strings.Repeat("}", depth-1) {
		t.Errorf("%d bytes", len(got))
	}
	if value.Is(program(), recordOf(0), a) {
		t.Error("it is of a type")
	}
}

// What is handed in isn't changed, nor what stands in the spare room behind it.
func TestValuesStay(t *testing.T) {
	fields := []api.Value{integer(2), text(`a"`), truth(1), record(1, integer(1))}
	p, v := program(), record(1, fields[:2]...)
	value.Is(p, recordOf(1), v)
	value.Compare(v, v)
	value.Same(v, v)
	value.Print(v)
	value.Zero(p, recordOf(1))
	value.Right(p)
	if !reflect.DeepEqual(fields, []api.Value{integer(2), text(`a"`), truth(1), record(1, integer(1))}) || !reflect.DeepEqual(p, program()) {
		t.Errorf("changed: %v, %v", fields, p)
	}
}

// What is answered shares no memory with another answer, its spare room neither.
func TestZerosAreNew(t *testing.T) {
	p := program()
	first, second := value.Zero(p, recordOf(2)), value.Zero(p, recordOf(2))
	room := first.Fields[:cap(first.Fields)]
	for i := range room {
		room[i] = integer(9)
	}
	want := record(2, text(""), truth(0), integer(0))
	if !equal(second, want) || !equal(value.Zero(p, recordOf(2)), want) {
		t.Errorf("%v, want %v", second, want)
	}
	p.Records[2].Types[0] = intType
	if !equal(second, want) {
		t.Errorf("%v, want %v", second, want)
	}
}
