package vm_test

import (
	"fmt"
	"slices"
	"testing"

	"windlass/api"
)

// keyAndValue: of each map one of its types.
var keyAndValue = [mapCount][2]api.Value{
	numbers: {numbered(-3), numbered(30)}, texts: {texted("k"), texted("v")}, pairs: {numbered(5), pairOf(6, "seven")}, truths: {texted(""), truth(true)},
}

// zeros: of each map's values.
var zeros = [mapCount]api.Value{numbers: numbered(0), texts: texted(""), pairs: pairOf(0, ""), truths: truth(false)}

// P9.1: of each map: what was put is there, what was taken out isn't, and of what isn't there there is a zero.
func TestMaps(t *testing.T) {
	for m := range mapCount {
		args := keyAndValue[m][:]
		get := append([]api.Op{op(api.IGet, 2, 0, 0, m)}, told(2, typeOf(args[1]))...)
		has := append([]api.Op{op(api.IHas, 2, 0, 0, m)}, told(2, boolType)...)
		del := op(api.IDel, 0, 0, 0, m)
		there := filled(m, args...)
		for _, r := range []struct {
			s     api.State
			ahead []api.Op
			isIn  bool
		}{
			{blank(), nil, false}, {there, nil, true}, {blank(), []api.Op{put(0, 1, m)}, true}, {there, []api.Op{put(0, 1, m)}, true},
			{there, []api.Op{del}, false}, {blank(), []api.Op{del}, false}, {there, []api.Op{del, put(0, 1, m)}, true}, {blank(), []api.Op{put(0, 1, m), del, del}, false},
		} {
			want, behind := zeros[m], blank()
			if r.isIn {
				want, behind = args[1], there
			}
			before := shown(r.s)
			o := does(t, r.s, args, append(slices.Clone(r.ahead), get...)...)
			wantValue(t, "IGet", o, want)
			if shown(o.State) != shown(behind) {
				t.Errorf("P9.1: map %d: %s, want %s", m, shown(o.State), shown(behind))
			}
			wantValue(t, "IHas", does(t, r.s, args, append(slices.Clone(r.ahead), has...)...), truth(r.isIn))
			if shown(r.s) != before {
				t.Errorf("the state that was handed in is changed: %s", shown(r.s))
			}
		}
	}
}

// P9.1: an instruction of one map changes no other, though keys are alike.
func TestMapsApart(t *testing.T) {
	s := blank()
	for m := range mapCount {
		s.Maps[m] = filled(m, keyAndValue[m][:]...).Maps[m]
	}
	s.Maps[numbers] = filled(numbers, numbered(5), numbered(1)).Maps[numbers]
	o := does(t, s, []api.Value{numbered(5), numbered(2)}, op(api.IDel, 0, 0, 0, pairs), put(0, 1, numbers), put(1, 1, numbers))
	want := blank()
	want.Maps[numbers] = filled(numbers, numbered(2), numbered(2), numbered(5), numbered(2)).Maps[numbers]
	want.Maps[texts], want.Maps[truths] = s.Maps[texts], s.Maps[truths]
	wantDone(t, "maps apart", o)
	if shown(o.State) != shown(want) {
		t.Errorf("P9.1: %s, want %s", shown(o.State), shown(want))
	}
}

// P9.1: a full map takes a value at each key that is there, and no other key; a key taken out makes room.
func TestFullMap(t *testing.T) {
	for key := int64(-1); key <= 48; key++ {
		args := []api.Value{numbered(key), numbered(7)}
		o := does(t, full(), args, put(0, 1, numbers))
		isIn := key >= 0 && key <= 46 && key%2 == 0
		if !isIn {
			wantTrap(t, fmt.Sprint("key ", key), o, api.TrapFull, full())
			continue
		}
		want := full()
		want.Maps[numbers][key/2].Value.Int = 7
		wantDone(t, "a key that is there", o)
		if shown(o.State) != shown(want) {
			t.Errorf("P9.1: %s, want %s", shown(o.State), shown(want))
		}
	}
	o := does(t, full(), []api.Value{numbered(46), numbered(47)}, op(api.IDel, 0, 0, 0, numbers), put(1, 1, numbers))
	wantDone(t, "room again", o)
	if last := o.State.Maps[numbers]; len(last) != 24 || last[23].Key.Int != 47 {
		t.Errorf("P9.1: %s", shown(o.State))
	}
	o = does(t, full(), []api.Value{numbered(45), numbered(47)}, op(api.IDel, 0, 0, 0, numbers), put(1, 1, numbers))
	wantTrap(t, "a key that wasn't there is taken out", o, api.TrapFull, full())
	// The twenty-fourth is taken, the next one not.
	s := full()
	s.Maps[numbers] = s.Maps[numbers][:23]
	o = does(t, s, []api.Value{numbered(1), numbered(3)}, put(0, 0, numbers))
	wantDone(t, "the twenty-fourth", o)
	wantTrap(t, "the twenty-fifth", does(t, s, []api.Value{numbered(1), numbered(3)}, put(0, 0, numbers), put(1, 1, numbers)), api.TrapFull, s)
	// Another map has room.
	wantDone(t, "another map", does(t, full(), []api.Value{numbered(1), pairOf(1, "")}, put(0, 1, pairs)))
}

// nexts: what INext leaves in D, A and B, of an A and a B ahead of it.
func nexts(t *testing.T, s api.State, m int, key api.Value, isMet bool) [3]api.Value {
	t.Helper()
	ops := []api.Op{op(api.INext, 2, 0, 1, m)}
	for register, kind := range []api.Type{typeOf(key), boolType, boolType} {
		ops = append(ops, told(register, kind)...)
	}
	o := does(t, s, []api.Value{key, truth(isMet)}, ops...)
	wantDone(t, "INext", o)
	if len(o.Plans) != 3 {
		t.Fatalf("P9.1: INext: %s", shown(o))
	}
	return [3]api.Value{o.Plans[2].Event.Args[0], o.Plans[0].Event.Args[0], o.Plans[1].Event.Args[0]}
}

// P9.1: the first key, if none was met; else the first above, whether the key that was met is there or not; at the end neither A nor B is changed.
func TestNext(t *testing.T) {
	some := filled(numbers, numbered(-9), numbered(1), numbered(0), numbered(2), numbered(7), numbered(3))
	words := filled(texts, texted(""), texted("1"), texted("\x00"), texted("2"), texted("a"), texted("3"), texted("\xff"), texted("4"))
	one := filled(numbers, numbered(4), numbered(4))
	for _, r := range []struct {
		s     api.State
		m     int
		key   api.Value
		isMet bool
		next  api.Value
		there bool
	}{
		{blank(), numbers, numbered(0), false, numbered(0), false}, {blank(), numbers, numbered(3), true, numbered(3), false},
		{some, numbers, numbered(100), false, numbered(-9), true}, {some, numbers, numbered(0), false, numbered(-9), true},
		{some, numbers, numbered(-10), true, numbered(-9), true}, {some, numbers, numbered(-9), true, numbered(0), true}, {some, numbers, numbered(-8), true, numbered(0), true},
		{some, numbers, numbered(0), true, numbered(7), true}, {some, numbers, numbered(6), true, numbered(7), true}, {some, numbers, numbered(7), true, numbered(7), false}, {some, numbers, numbered(8), true, numbered(8), false},
		{words, texts, texted("z"), false, texted(""), true}, {words, texts, texted(""), true, texted("\x00"), true}, {words, texts, texted("\x00"), true, texted("a"), true}, {words, texts, texted("\x00b"), true, texted("a"), true},
		{words, texts, texted("a"), true, texted("\xff"), true}, {words, texts, texted("aa"), true, texted("\xff"), true}, {words, texts, texted("\xff"), true, texted("\xff"), false},
		{one, numbers, numbered(4), false, numbered(4), true}, {one, numbers, numbered(4), true, numbered(4), false}, {one, pairs, numbered(4), false, numbered(4), false}, {full(), numbers, numbered(45), true, numbered(46), true},
	} {
		got := nexts(t, r.s, r.m, r.key, r.isMet)
		want := [3]api.Value{truth(r.there), r.next, truth(r.isMet || r.there)}
		if shown(got[:]) != shown(want[:]) {
			t.Errorf("P9.1: INext of %s, %t: %s, want %s", shown(r.key), r.isMet, shown(got[:]), shown(want[:]))
		}
	}
}

// P9.1: D and B may be one register: it is whether there is one.
func TestNextIntoItsOwn(t *testing.T) {
	s := filled(numbers, numbered(1), numbered(1))
	for _, isMet := range []bool{false, true} {
		ops := append([]api.Op{op(api.INext, 1, 0, 1, numbers)}, told(1, boolType)...)
		o := does(t, s, []api.Value{numbered(1), truth(isMet)}, ops...)
		wantValue(t, "INext whose D is B", o, truth(!isMet))
	}
	// D and A are one: nothing can read it behind that, and it does no harm.
	wantDone(t, "INext whose D is A", does(t, s, []api.Value{numbered(1), truth(false)}, op(api.INext, 0, 0, 1, numbers)))
	wantDone(t, "INext whose D is A", does(t, s, []api.Value{numbered(1), truth(true)}, op(api.INext, 0, 0, 1, numbers)))
}

// walk: a loop over map numbers, with what is done at each key; the key stands in register 0, what is met in 1, whether there is one in 2.
func walk(body ...api.Op) []api.Op {
	top := 4
	head := []api.Op{set(0, zero), be(1, 0), jump(top), charge(), op(api.INext, 2, 0, 1, numbers), unless(2, top+len(body)+4)}
	return slices.Concat(head, body, []api.Op{jump(top)})
}

// P9.1: all keys in their order, once; also where the key, or the next one, is taken out, or another is put, on the way.
func TestWalk(t *testing.T) {
	tell := []api.Op{op(api.IStr, 3, 0), emit(3)}
	s := filled(numbers, numbered(-4), numbered(0), numbered(0), numbered(0), numbered(3), numbered(0), numbered(9), numbered(0))
	del := func(a int) api.Op { return op(api.IDel, 0, a, 0, numbers) }
	for _, r := range []struct {
		what string
		body []api.Op
		want string
		left int
	}{
		{"nothing else", nil, "[-4 0 3 9]", 4},
		{"each is taken out", []api.Op{del(0)}, "[-4 0 3 9]", 0},
		{"the next one is taken out", []api.Op{op(api.IMove, 4, 0), be(5, 1), op(api.INext, 6, 4, 5, numbers), unless(6, 14), del(4)}, "[-4 3]", 2},
		{"one below is put", []api.Op{set(5, thousand), op(api.ISub, 4, 0, 5), op(api.IHas, 6, 4, 0, numbers), put(4, 4, numbers)}, "[-4 0 3 9]", 8},
	} {
		ops := walk(append(slices.Clone(tell), r.body...)...)
		o := does(t, s, nil, ops...)
		wantDone(t, r.what, o)
		if fmt.Sprint(o.Emits) != r.want || len(o.State.Maps[numbers]) != r.left {
			t.Errorf("P9.1: %s: %v, %s; want %s, %d", r.what, o.Emits, shown(o.State), r.want, r.left)
		}
	}
	// Keys above are met, too: until the emissions are too many.
	above := []api.Op{set(5, thousand), op(api.IAdd, 4, 0, 5), put(4, 4, numbers)}
	wantTrap(t, "one above is put", does(t, s, nil, walk(append(slices.Clone(tell), above...)...)...), api.TrapEmits, s)
}
