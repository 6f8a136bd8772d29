package code_test

import (
	"math/rand"
	"reflect"
	"strings"
	"testing"

	"windlass/api"
	"windlass/code"
)

func copied[T any](list []T) []T { return append(make([]T, 0, len(list)), list...) }

// full: a copy, no list of which is nil.
func full(c api.Code) api.Code {
	p := c.Program
	p = api.Program{Records: copied(p.Records), Maps: copied(p.Maps), Funcs: copied(p.Funcs), Events: copied(p.Events)}
	for i := range p.Records {
		p.Records[i].Fields, p.Records[i].Types = copied(p.Records[i].Fields), copied(p.Records[i].Types)
	}
	for _, list := range [][]api.Sig{p.Funcs, p.Events} {
		for i := range list {
			list[i].Params = copied(list[i].Params)
		}
	}
	c = api.Code{Program: p, Ints: copied(c.Ints), Texts: copied(c.Texts), Funcs: copied(c.Funcs), Events: copied(c.Events)}
	for _, f := range bodies(c) {
		f.Ops = copied(f.Ops)
	}
	return c
}

func wantSame(t *testing.T, a, b api.Code, want bool) {
	t.Helper()
	if code.Same(a, b) != want || code.Same(b, a) != want {
		t.Errorf("%v and %v: Same %t", a, b, !want)
	}
}

// strangers: codes that may not be.
func strangers() []api.Code {
	types := []api.Type{{Kind: 9, Rec: -1}, {}}
	sigs := []api.Sig{{Name: "?", Params: types, Result: api.Type{Kind: -3, Rec: 4}}, {}}
	fns := []api.Fn{{Regs: -5, Ops: []api.Op{{Code: 99, D: -7, A: 1 << 40, B: 2, K: 3}, {}}}, {}}
	return []api.Code{
		{Program: api.Program{Records: []api.RecordType{{Name: "", Fields: []string{"", "x", "x"}, Types: types}, {}}}},
		{Program: api.Program{Maps: []api.MapType{{Name: "9", Key: types[0], Value: types[0]}, {}}}},
		{Program: api.Program{Funcs: sigs}}, {Program: api.Program{Events: sigs}},
		{Funcs: fns}, {Events: fns}, {Ints: make([]int64, 3)}, {Texts: []string{strings.Repeat("x", 99), ""}},
	}
}

// changedOnce: a code with one number, text or list changed, and the field's name; none, if there are fewer.
func changedOnce(c api.Code, which int) (api.Code, string) {
	c = full(c)
	for name, v := range parts(reflect.ValueOf(&c).Elem(), "") {
		if which > 0 {
			which--
			continue
		}
		switch v.Kind() {
		case reflect.String:
			v.SetString(v.String() + "x")
		case reflect.Slice:
			v.Set(reflect.Append(v, reflect.Zero(v.Type().Elem())))
		default:
			v.SetInt(v.Int() + 1)
		}
		return c, name
	}
	return c, ""
}

// P9.4: codes that differ in one number, text or list aren't alike.
func TestSameOfOneChange(t *testing.T) {
	fields := map[string]int{}
	for _, c := range append(strangers(), api.Code{}, sample(), every()) {
		wantSame(t, c, c, true)
		wantSame(t, c, full(c), true)
		for which := 0; ; which++ {
			changed, name := changedOnce(c, which)
			if name == "" {
				break
			}
			fields[name]++
			wantSame(t, c, changed, false)
		}
	}
	for _, name := range strings.Fields("Records Maps Funcs Events Ints Texts Name Fields Types Params Kind Rec Regs Ops Code D A B K") {
		if fields[name] == 0 {
			t.Errorf("%s was never changed", name)
		}
	}
}

// P9.4: parts at other places.
func TestSameOfPlaces(t *testing.T) {
	sigs, fns := []api.Sig{{Name: "f"}}, []api.Fn{{Regs: 1}}
	ops := []api.Op{{Code: 1}, {Code: 2}, {Code: 1}}
	in := func(first, second []api.Op) api.Code {
		return api.Code{Events: []api.Fn{{Ops: first}, {Ops: second}}}
	}
	for _, list := range [][]api.Code{
		append(strangers(), api.Code{}, sample()),
		{{Program: api.Program{Funcs: sigs}}, {Program: api.Program{Events: sigs}}, {Program: api.Program{Funcs: sigs, Events: sigs}}, {}},
		{{Funcs: fns}, {Events: fns}, {Funcs: fns, Events: fns}, {Funcs: append(fns, fns...)}},
		{in(ops, nil), in(nil, ops), in(ops[:1], ops[1:]), in(ops[:2], ops[2:]), in(ops[1:], ops[:1]), {Events: []api.Fn{{Ops: ops}}}},
		{{Ints: []int64{1, 2}}, {Ints: []int64{2, 1}}, {Ints: []int64{1}}, {Ints: []int64{2}}, {Ints: []int64{1, 2, 0}}},
		{{Texts: []string{"ab", ""}}, {Texts: []string{"a", "b"}}, {Texts: []string{"", "ab"}}, {Texts: []string{"ab"}}, {Texts: []string{""}}, {}},
	} {
		for i, a := range list {
			for j, b := range list {
				wantSame(t, a, b, i == j)
			}
		}
	}
}

// P9.4: nil and empty are one.
func TestSameOfNilAndEmpty(t *testing.T) {
	wantSame(t, api.Code{}, full(api.Code{}), true)
	bare := api.Code{Program: api.Program{Records: make([]api.RecordType, 2), Maps: make([]api.MapType, 2), Funcs: make([]api.Sig, 2), Events: make([]api.Sig, 2)}, Ints: make([]int64, 2), Texts: make([]string, 2), Funcs: make([]api.Fn, 2), Events: make([]api.Fn, 2)}
	wantSame(t, bare, full(bare), true)
	for _, c := range []api.Code{{}, sample(), bare} {
		if code.Is(c) != code.Is(full(c)) {
			t.Errorf("%v: nil and empty are two", c)
		}
	}
	g := api.Code{Program: api.Program{Events: []api.Sig{{Name: "e"}}}, Events: []api.Fn{{Ops: charges(1)}}}
	if string(encoded(t, g)) != string(encoded(t, full(g))) {
		t.Error("nil and empty have other bytes")
	}
}

// P9.4: Same by chance, of codes that are often alike.
func TestSameByChance(t *testing.T) {
	k := maker{rand.New(rand.NewSource(103))}
	alike := 0
	for range 3000 {
		a := k.code()
		b := full(a)
		k.spoil(&b)
		want := reflect.DeepEqual(full(a), full(b))
		wantSame(t, a, b, want)
		if want {
			alike++
		}
	}
	if alike == 0 {
		t.Error("none were alike")
	}
}
