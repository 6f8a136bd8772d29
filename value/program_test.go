package value_test

import (
	"slices"
	"strconv"
	"strings"
	"testing"

	"windlass/api"
	"windlass/value"
)

var (
	none     = api.Type{}
	intType  = api.Type{Kind: api.Int}
	textType = api.Type{Kind: api.Text}
	boolType = api.Type{Kind: api.Bool}
)

func recordOf(rec int) api.Type { return api.Type{Kind: api.Record, Rec: rec} }

// noTypes: what is no type in a program with three records.
func noTypes() []api.Type {
	list := []api.Type{none, {Kind: -1}, {Kind: 5}, {Kind: 1 << 40}, {Kind: -1 << 63}, recordOf(-1), recordOf(3), recordOf(16), recordOf(1 << 40), recordOf(-1 << 63)}
	for _, kind := range []int{api.None, api.Int, api.Text, api.Bool} {
		for _, rec := range []int{-1, 1, 2, 3} {
			list = append(list, api.Type{Kind: kind, Rec: rec})
		}
	}
	return list
}

// program: with three records, so that a Rec of 0, 1 and 2 is one; its names are none that TestNames puts beside them.
func program() api.Program {
	return api.Program{
		Records: []api.RecordType{
			{Name: "One", Fields: []string{"only"}, Types: []api.Type{boolType}},
			{Name: "Pair", Fields: []string{"xx", "ss"}, Types: []api.Type{intType, textType}},
			{Name: "All", Fields: []string{"aa", "bb", "cc"}, Types: []api.Type{textType, boolType, intType}},
		},
		Maps: []api.MapType{
			{Name: "mm", Key: intType, Value: recordOf(1)},
			{Name: "nn", Key: textType, Value: boolType},
		},
		Funcs: []api.Sig{
			{Name: "ff", Params: []api.Type{recordOf(2), boolType}, Result: textType},
			{Name: "gg"},
		},
		Events: []api.Sig{
			{Name: "ee", Params: []api.Type{intType, recordOf(0)}},
			{Name: "hh"},
		},
	}
}

func wantRight(t *testing.T, what string, change func(p *api.Program)) {
	t.Helper()
	p := program()
	change(&p)
	if !value.Right(p) {
		t.Errorf("%s: not right: %v", what, p)
	}
}

func wantWrong(t *testing.T, what string, change func(p *api.Program)) {
	t.Helper()
	p := program()
	change(&p)
	if value.Right(p) {
		t.Errorf("%s: right: %v", what, p)
	}
}

// names: each of the places where a name stands.
func names() map[string]func(p *api.Program) *string {
	return map[string]func(p *api.Program) *string{
		"record":      func(p *api.Program) *string { return &p.Records[0].Name },
		"last record": func(p *api.Program) *string { return &p.Records[2].Name },
		"field":       func(p *api.Program) *string { return &p.Records[0].Fields[0] },
		"last field":  func(p *api.Program) *string { return &p.Records[2].Fields[2] },
		"map":         func(p *api.Program) *string { return &p.Maps[0].Name },
		"last map":    func(p *api.Program) *string { return &p.Maps[1].Name },
		"func":        func(p *api.Program) *string { return &p.Funcs[0].Name },
		"last func":   func(p *api.Program) *string { return &p.Funcs[1].Name },
		"event":       func(p *api.Program) *string { return &p.Events[0].Name },
		"last event":  func(p *api.Program) *string { return &p.Events[1].Name },
	}
}

// nameRight is the chapter's words about a name.
func nameRight(name string, ofRecord bool) bool {
	const small, great, digits = "abcdefghijklmnopqrstuvwxyz_", "ABCDEFGHIJKLMNOPQRSTUVWXYZ", "0123456789"
	if len(name) == 0 || len(name) > 20 {
		return false
	}
	for i := range len(name) {
		if !strings.Contains(small+great+digits, name[i:i+1]) {
			return false
		}
	}
	first := small
	if ofRecord {
		first = great
	}
	return strings.Contains(first, name[:1])
}

func wantName(t *testing.T, name string) {
	t.Helper()
	for place, at := range names() {
		p := program()
		*at(&p) = name
		want := nameRight(name, strings.HasSuffix(place, "record"))
		if value.Right(p) != want {
			t.Errorf("the %s's name %q: %t, want %t", place, name, !want, want)
		}
	}
}

// P3.1: names of each sort: how long they are, with which byte they begin, which bytes they have.
func TestNames(t *testing.T) {
	wantName(t, "")
	for c := range 256 {
		b := string([]byte{byte(c)})
		wantName(t, b)
		wantName(t, b+"q")
		wantName(t, "q"+b)
		wantName(t, "Q"+b)
		wantName(t, "_q"+b+"9")
		wantName(t, "Qq"+b+"9")
	}
	for _, first := range []string{"a", "z", "_", "A", "Z", "0", "9", "-"} {
		for _, length := range []int{19, 20, 21, 22, 64, 1000} {
			wantName(t, first+strings.Repeat("x", length-1))
		}
	}
	for _, word := range []string{"if", "int", "none", "é", "aé", "Aé", "ａ", "a b", "a\n", "\xFF"} {
		wantName(t, word)
	}
}

// P3.1: two of one sort with one name.
func TestTwoOfOneName(t *testing.T) {
	wantWrong(t, "records", func(p *api.Program) { p.Records[2].Name = p.Records[0].Name })
	wantWrong(t, "records side by side", func(p *api.Program) { p.Records[1].Name = p.Records[0].Name })
	wantWrong(t, "fields", func(p *api.Program) { p.Records[2].Fields[2] = p.Records[2].Fields[0] })
	wantWrong(t, "fields side by side", func(p *api.Program) { p.Records[1].Fields[1] = p.Records[1].Fields[0] })
	wantWrong(t, "maps", func(p *api.Program) { p.Maps[1].Name = p.Maps[0].Name })
	wantWrong(t, "functions", func(p *api.Program) { p.Funcs[1].Name = p.Funcs[0].Name })
	wantWrong(t, "handlers", func(p *api.Program) { p.Events[1].Name = p.Events[0].Name })
}

// P3.1: one name in two sorts, and in two records, and names that differ in little.
func TestOneNameInTwoSorts(t *testing.T) {
	wantRight(t, "nothing", func(p *api.Program) { *p = api.Program{} })
	wantRight(t, "as it is", func(p *api.Program) {})
	wantRight(t, "all sorts", func(p *api.Program) {
		for _, name := range []*string{&p.Records[0].Fields[0], &p.Records[1].Fields[0], &p.Records[2].Fields[2], &p.Maps[0].Name, &p.Funcs[1].Name, &p.Events[0].Name} {
			*name = "same"
		}
	})
	wantRight(t, "great and small", func(p *api.Program) {
		p.Records[0].Name, p.Records[1].Name = "AB", "Ab"
		p.Maps[0].Name, p.Maps[1].Name = "a", "a_"
	})
}

// many: a program with so many of each sort.
func many(records, maps, funcs, events int) api.Program {
	var p api.Program
	for i := range records {
		p.Records = append(p.Records, api.RecordType{Name: "R" + strconv.Itoa(i), Fields: []string{"x"}, Types: []api.Type{intType}})
	}
	for i := range maps {
		p.Maps = append(p.Maps, api.MapType{Name: "m" + strconv.Itoa(i), Key: intType, Value: textType})
	}
	for i := range funcs {
		p.Funcs = append(p.Funcs, api.Sig{Name: "f" + strconv.Itoa(i)})
	}
	for i := range events {
		p.Events = append(p.Events, api.Sig{Name: "e" + strconv.Itoa(i)})
	}
	return p
}

// P3.1: MaxDecls of each sort, and one more.
func TestHowManyOfASort(t *testing.T) {
	for _, p := range []api.Program{many(16, 16, 16, 16), many(15, 15, 15, 15), many(0, 16, 0, 1)} {
		if !value.Right(p) {
			t.Errorf("not right: %v", p)
		}
	}
	for _, p := range []api.Program{many(17, 0, 0, 0), many(0, 17, 0, 0), many(0, 0, 17, 0), many(0, 0, 0, 17), many(16, 16, 16, 17), many(100, 1, 1, 1)} {
		if value.Right(p) {
			t.Errorf("right: %v", p)
		}
	}
}

func withFields(names, types int) func(p *api.Program) {
	return func(p *api.Program) {
		p.Records[1].Fields, p.Records[1].Types = nil, nil
		for i := range names {
			p.Records[1].Fields = append(p.Records[1].Fields, "f"+strconv.Itoa(i))
		}
		for range types {
			p.Records[1].Types = append(p.Records[1].Types, boolType)
		}
	}
}

// P3.1: how many fields a record has, and as many types.
func TestHowManyFields(t *testing.T) {
	for count := range 20 {
		for types := range 20 {
			what := strconv.Itoa(count) + " fields of " + strconv.Itoa(types) + " types"
			if count == types && 1 <= count && count <= 12 {
				wantRight(t, what, withFields(count, types))
			} else {
				wantWrong(t, what, withFields(count, types))
			}
		}
	}
}

// P3.1: the types of fields, keys, values, parameters and results.
func TestTypesOfAProgram(t *testing.T) {
	types := append(noTypes(), intType, textType, boolType, recordOf(0), recordOf(1), recordOf(2))
	for _, typ := range types {
		isType := !slices.Contains(noTypes(), typ)
		isKey := typ == intType || typ == textType
		wants := map[string]bool{
			"field":      isKey || typ == boolType,
			"last field": isKey || typ == boolType,
			"key":        isKey,
			"last key":   isKey,
			"value":      isType,
			"last value": isType,
			"parameter":  isType,
			"last one":   isType,
			"argument":   isType,
			"last arg":   isType,
			"result":     isType || typ == none,
			"last":       isType || typ == none,
			"handler":    typ == none,
			"last event": typ == none,
		}
		for place, at := range map[string]func(p *api.Program) *api.Type{
			"field":      func(p *api.Program) *api.Type { return &p.Records[0].Types[0] },
			"last field": func(p *api.Program) *api.Type { return &p.Records[2].Types[2] },
			"key":        func(p *api.Program) *api.Type { return &p.Maps[0].Key },
			"last key":   func(p *api.Program) *api.Type { return &p.Maps[1].Key },
			"value":      func(p *api.Program) *api.Type { return &p.Maps[0].Value },
			"last value": func(p *api.Program) *api.Type { return &p.Maps[1].Value },
			"parameter":  func(p *api.Program) *api.Type { return &p.Funcs[0].Params[0] },
			"last one":   func(p *api.Program) *api.Type { return &p.Funcs[0].Params[1] },
			"argument":   func(p *api.Program) *api.Type { return &p.Events[0].Params[0] },
			"last arg":   func(p *api.Program) *api.Type { return &p.Events[0].Params[1] },
			"result":     func(p *api.Program) *api.Type { return &p.Funcs[0].Result },
			"last":       func(p *api.Program) *api.Type { return &p.Funcs[1].Result },
			"handler":    func(p *api.Program) *api.Type { return &p.Events[0].Result },
			"last event": func(p *api.Program) *api.Type { return &p.Events[1].Result },
		} {
			p := program()
			*at(&p) = typ
			if value.Right(p) != wants[place] {
				t.Errorf("%s of type %v: %t, want %t", place, typ, !wants[place], wants[place])
			}
		}
	}
}

// P3.1: MaxItems parameters, and one more.
func TestHowManyParams(t *testing.T) {
	for count := range 20 {
		params := slices.Repeat([]api.Type{recordOf(2)}, count)
		for what, change := range map[string]func(p *api.Program){
			"function": func(p *api.Program) { p.Funcs[1].Params = params },
			"handler":  func(p *api.Program) { p.Events[1].Params = params },
		} {
			what += " of " + strconv.Itoa(count)
			if count <= 12 {
				wantRight(t, what, change)
			} else {
				wantWrong(t, what, change)
			}
		}
	}
}

// P3.1: a record's number is looked up in the program that is handed in.
func TestRecordsOfTheProgram(t *testing.T) {
	p := many(16, 1, 0, 0)
	p.Maps[0].Value = recordOf(15)
	if !value.Right(p) {
		t.Error("the last record isn't a type")
	}
	p.Maps[0].Value = recordOf(16)
	if value.Right(p) {
		t.Error("one more is a type")
	}
	if value.Right(api.Program{Events: []api.Sig{{Name: "ee", Params: []api.Type{recordOf(0)}}}}) {
		t.Error("a record is a type of a program without records")
	}
}

// P3.1: what is handed in isn't changed, nor what stands in the spare room behind it.
func TestProgramStays(t *testing.T) {
	p := program()
	p.Records[1].Fields = []string{"x", "s", "x", "?"}[:2]
	p.Records[1].Types = []api.Type{intType, textType, {Kind: 9}}[:2]
	p.Records = p.Records[:2]
	p.Maps[0].Value, p.Funcs[0].Params[0] = recordOf(0), recordOf(1)
	p.Events = p.Events[:1]
	p.Maps = p.Maps[:1]
	if !value.Right(p) {
		t.Error("what stands behind the lists was looked at")
	}
	value.Zero(p, recordOf(1))
	value.Name(p, recordOf(1))
	value.Is(p, recordOf(1), record(1, integer(1), text("a")))
	fields, types := p.Records[1].Fields[:4], p.Records[1].Types[:3]
	if !slices.Equal(fields, []string{"x", "s", "x", "?"}) || !slices.Equal(types, []api.Type{intType, textType, {Kind: 9}}) {
		t.Errorf("changed: %v, %v", fields, types)
	}
	if p.Records[:3][2].Name != "All" || p.Events[:2][1].Name != "hh" || p.Maps[:2][1].Name != "nn" {
		t.Errorf("changed: %v", p)
	}
}
