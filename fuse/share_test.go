package fuse_test

import (
	"fmt"
	"math/rand"
	"reflect"
	"slices"
	"strconv"
	"strings"
	"sync"
	"testing"
	"unsafe"

	"windlass/api"
	"windlass/fuse"
)

// span: where a list or a text lies, its spare room too; what hangs on that counts, too.
type span struct{ from, to uintptr }

func spans(v reflect.Value) []span {
	var list []span
	switch v.Kind() {
	case reflect.String:
		if s := v.String(); s != "" {
			from := uintptr(unsafe.Pointer(unsafe.StringData(s)))
			list = append(list, span{from, from + uintptr(len(s))})
		}
	case reflect.Slice:
		if v.Cap() > 0 {
			list = append(list, span{v.Pointer(), v.Pointer() + uintptr(v.Cap())*v.Type().Elem().Size()})
		}
		for i := range v.Cap() {
			list = append(list, spans(v.Slice(0, v.Cap()).Index(i))...)
		}
	case reflect.Struct:
		for i := range v.NumField() {
			list = append(list, spans(v.Field(i))...)
		}
	}
	return list
}

// wantApart: that no two of these share anything, nor one of them and one of the others.
func wantApart(t *testing.T, mine, others []span) {
	t.Helper()
	isMine := map[span]bool{}
	for _, s := range mine {
		if isMine[s] {
			t.Fatal("memory that is shared")
		}
		isMine[s] = true
	}
	all := append(slices.Clone(mine), others...)
	slices.SortFunc(all, func(a, b span) int { return int(a.from) - int(b.from) })
	for i := 1; i < len(all); i++ {
		if all[i].from < all[i-1].to && (isMine[all[i]] || isMine[all[i-1]]) {
			t.Fatal("memory that is shared")
		}
	}
}

// scribble writes over all lists that hang on a value, and the room behind them.
func scribble(v reflect.Value) {
	switch v.Kind() {
	case reflect.Slice:
		for i := range v.Cap() {
			scribble(v.Slice(0, v.Cap()).Index(i))
		}
	case reflect.Struct:
		for i := range v.NumField() {
			scribble(v.Field(i))
		}
	case reflect.String:
		v.SetString("scribbled")
	default:
		v.SetInt(v.Int() + 77)
	}
}

// dump: all that hangs on a value, the spare room of its lists too.
func dump(v reflect.Value, out *strings.Builder) {
	switch v.Kind() {
	case reflect.Slice:
		out.WriteString("[" + strconv.Itoa(v.Len()) + ":")
		for i := range v.Cap() {
			dump(v.Slice(0, v.Cap()).Index(i), out)
		}
		out.WriteString("]")
	case reflect.Struct:
		for i := range v.NumField() {
			dump(v.Field(i), out)
		}
	case reflect.String:
		out.WriteString(strconv.Quote(v.String()) + ",")
	default:
		out.WriteString(strconv.FormatInt(v.Int(), 10) + ",")
	}
}

func dumped(x any) string {
	var out strings.Builder
	dump(reflect.ValueOf(x), &out)
	return out.String()
}

// roomy: a copy with room behind each list, in which something stands; its texts lie in memory of their own.
func roomy(u api.Unit) api.Unit { return roomyValue(reflect.ValueOf(u)).Interface().(api.Unit) }

func roomyValue(v reflect.Value) reflect.Value {
	fresh := reflect.New(v.Type()).Elem()
	switch v.Kind() {
	case reflect.Slice:
		n := v.Len()
		fresh.Set(reflect.MakeSlice(v.Type(), n+2, n+2))
		scribble(fresh)
		for i := range n {
			fresh.Index(i).Set(roomyValue(v.Index(i)))
		}
		return fresh.Slice(0, n)
	case reflect.Struct:
		for i := range v.NumField() {
			fresh.Field(i).Set(roomyValue(v.Field(i)))
		}
		return fresh
	case reflect.String:
		fresh.SetString(strings.Clone(v.String()))
		return fresh
	}
	return v
}

// someUnits: by chance, some of them spoilt.
func someUnits(seed int64, count int) []api.Unit {
	k := maker{rand.New(rand.NewSource(seed))}
	units := []api.Unit{{}, plain()}
	for range count {
		u := k.unit()
		if k.Intn(4) == 0 {
			k.spoil(&u)
		}
		units = append(units, u)
	}
	return units
}

// What is answered shares no memory with an argument, or with another answer; no two lists or texts of it share any.
func TestAnswersShareNothing(t *testing.T) {
	for _, u := range someUnits(177, 150) {
		u = roomy(u)
		one, _ := fuse.Pass(u)
		other, _ := fuse.Pass(u)
		wantApart(t, spans(reflect.ValueOf(one)), append(spans(reflect.ValueOf(other)), spans(reflect.ValueOf(u))...))
	}
	// Lists of what is handed in may share theirs.
	u := plain()
	for i := range eventCount {
		u.Events[i] = u.Events[onE]
		u.Program.Events[i].Params = u.Program.Events[onE].Params
	}
	u.Program.Maps[1].Name = u.Program.Funcs[1].Name
	u.Texts = append(u.Texts, u.Program.Funcs[1].Name, u.Program.Records[0].Fields[0])
	u.Events[1].Blocks[1].Ops = u.Events[1].Blocks[0].Ops[:1]
	one, err := fuse.Pass(u)
	if err != api.OK {
		t.Fatalf("%d", err)
	}
	wantApart(t, spans(reflect.ValueOf(one)), spans(reflect.ValueOf(u)))
}

// No unit is changed, nor the room behind its lists, nor is that looked at; no answer is changed by what is done with the unit, or with another answer.
func TestUnitsAreLeft(t *testing.T) {
	for _, u := range someUnits(178, 200) {
		wide := roomy(u)
		before := dumped(wide)
		v, err := fuse.Pass(wide)
		want := dumped(v)
		again, number := fuse.Pass(wide)
		if dumped(wide) != before {
			t.Error("a unit was changed")
		}
		narrow, _ := fuse.Pass(u)
		if shown(again) != shown(v) || shown(narrow) != shown(v) || number != err {
			t.Error("another answer")
		}
		scribble(reflect.ValueOf(&again).Elem())
		scribble(reflect.ValueOf(&wide).Elem())
		if dumped(v) != want {
			t.Error("an answer was changed")
		}
	}
}

// An answer hangs on its unit alone: not on what was asked before, or is asked at the same time.
func TestAnswersAtOnce(t *testing.T) {
	units := someUnits(179, 60)
	var want []string
	for _, u := range units {
		v, err := fuse.Pass(u)
		want = append(want, shown(v)+fmt.Sprint(err))
	}
	var group sync.WaitGroup
	for worker := range 8 {
		group.Go(func() {
			for i := range units {
				i = (i*7 + worker) % len(units)
				if v, err := fuse.Pass(units[i]); shown(v)+fmt.Sprint(err) != want[i] {
					t.Error("another answer")
				}
			}
		})
	}
	group.Wait()
}

// A nil list and an empty one are the same.
func TestNilAndEmpty(t *testing.T) {
	nothing := api.Sig{Name: "e"}
	u := api.Unit{Program: api.Program{Events: []api.Sig{nothing}}, Events: []api.Graph{graph(0, jump(1, charged()...), api.Block{End: api.IRet, A: -1})}}
	empty := roomy(u)
	empty.Ints, empty.Texts, empty.Funcs = []int64{}, []string{}, []api.Graph{}
	empty.Program.Maps, empty.Program.Events[0].Params = []api.MapType{}, []api.Type{}
	empty.Events[0].Blocks[1].Ops = []api.Op{}
	if one, other := passed(t, u), passed(t, empty); shown(one) != shown(other) {
		t.Errorf("%s, %s", shown(one), shown(other))
	}
}
