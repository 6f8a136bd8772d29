package lower_test

import (
	"fmt"
	"math/rand"
	"reflect"
	"slices"
	"strconv"
	"strings"
	"sync"
	"testing"
	"unsafe"

	"windlass/api"
	"windlass/lower"
)

// shown: all that hangs on a value; a nil list and an empty one are shown alike.
func shown(x any) string {
	var out strings.Builder
	show(reflect.ValueOf(x), &out)
	return out.String()
}

func show(v reflect.Value, out *strings.Builder) {
	switch v.Kind() {
	case reflect.Slice:
		out.WriteString("[")
		for i := range v.Len() {
			show(v.Index(i), out)
		}
		out.WriteString("]")
	case reflect.Struct:
		out.WriteString("{")
		for i := range v.NumField() {
			var field strings.Builder
			if show(v.Field(i), &field); !v.Field(i).IsZero() && field.String() != "[]" && field.String() != "{}" {
				out.WriteString(v.Type().Field(i).Name + ":" + field.String())
			}
		}
		out.WriteString("}")
	case reflect.String:
		out.WriteString(strconv.Quote(v.String()) + " ")
	default:
		out.WriteString(fmt.Sprint(v.Interface()) + " ")
	}
}

// span: where a list or a text lies, its spare room too.
type span struct{ from, to uintptr }

func spans(v reflect.Value) []span {
	var list []span
	switch v.Kind() {
	case reflect.String:
		if s := v.String(); s != "" {
			from := uintptr(unsafe.Pointer(unsafe.StringData(s)))
			list = append(list, span{from, from + uintptr(len(s))})
		}
	case reflect.Slice:
		if v.Cap() > 0 {
			list = append(list, span{v.Pointer(), v.Pointer() + uintptr(v.Cap())*v.Type().Elem().Size()})
		}
		for i := range v.Len() {
			list = append(list, spans(v.Index(i))...)
		}
	case reflect.Struct:
		for i := range v.NumField() {
			list = append(list, spans(v.Field(i))...)
		}
	}
	return list
}

// wantApart: that no two of these share anything, nor one of them and one of the others.
func wantApart(t *testing.T, mine, others []span) {
	t.Helper()
	isMine := map[span]bool{}
	for _, s := range mine {
		if isMine[s] {
			t.Fatal("memory that is shared")
		}
		isMine[s] = true
	}
	all := append(slices.Clone(mine), others...)
	slices.SortFunc(all, func(a, b span) int { return int(a.from) - int(b.from) })
	for i := 1; i < len(all); i++ {
		if all[i].from < all[i-1].to && (isMine[all[i]] || isMine[all[i-1]]) {
			t.Fatal("memory that is shared")
		}
	}
}

// scribble writes over all lists that hang on a value, and the room behind them.
func scribble(v reflect.Value) {
	switch v.Kind() {
	case reflect.Slice:
		for i := range v.Cap() {
			scribble(v.Slice(0, v.Cap()).Index(i))
		}
	case reflect.Struct:
		for i := range v.NumField() {
			scribble(v.Field(i))
		}
	case reflect.String:
		v.SetString("scribbled")
	default:
		v.SetInt(v.Int() + 77)
	}
}

// dump: all that hangs on a value, the spare room of its lists too.
func dump(v reflect.Value, out *strings.Builder) {
	switch v.Kind() {
	case reflect.Slice:
		out.WriteString("[" + strconv.Itoa(v.Len()) + ":")
		for i := range v.Cap() {
			dump(v.Slice(0, v.Cap()).Index(i), out)
		}
		out.WriteString("]")
	case reflect.Struct:
		for i := range v.NumField() {
			dump(v.Field(i), out)
		}
	default:
		out.WriteString(fmt.Sprintf("%q,", fmt.Sprint(v.Interface())))
	}
}

func dumped(x any) string {
	var out strings.Builder
	dump(reflect.ValueOf(x), &out)
	return out.String()
}

// roomy: a copy with room behind each list, in which something stands; its texts lie in memory of their own.
func roomy(x api.Tree) api.Tree { return roomyValue(reflect.ValueOf(x)).Interface().(api.Tree) }

func roomyValue(v reflect.Value) reflect.Value {
	fresh := reflect.New(v.Type()).Elem()
	switch v.Kind() {
	case reflect.Slice:
		n := v.Len()
		fresh.Set(reflect.MakeSlice(v.Type(), n+2, n+2))
		scribble(fresh)
		for i := range n {
			fresh.Index(i).Set(roomyValue(v.Index(i)))
		}
		return fresh.Slice(0, n)
	case reflect.Struct:
		for i := range v.NumField() {
			fresh.Field(i).Set(roomyValue(v.Field(i)))
		}
		return fresh
	case reflect.String:
		fresh.SetString(strings.Clone(v.String()))
		return fresh
	}
	return v
}

// someTrees: by chance, some of them refused; and some with more constants than there is room for.
func someTrees(t *testing.T, seed int64, count int) []api.Tree {
	k := &maker{Rand: rand.New(rand.NewSource(seed)), limit: small}
	trees := []api.Tree{read(t, in("emit w[\"a\"] & ask port(\"a\");")), crowded(1200), lettered(1200), {}, read(t, "on e() { emit 1; }"), ofLets(70)}
	for range count {
		trees = append(trees, k.whole())
	}
	return trees
}

// What is answered shares no memory with the tree, or with another answer; no two lists or texts of it share any.
func TestAnswersShareNothing(t *testing.T) {
	for _, x := range someTrees(t, 131, 100) {
		x = roomy(x)
		one, _, _ := lower.Lower(x)
		other, _, _ := lower.Lower(x)
		mine := spans(reflect.ValueOf(one))
		wantApart(t, mine, append(spans(reflect.ValueOf(other)), spans(reflect.ValueOf(x))...))
	}
}

// No tree is changed, nor the room behind its lists, nor is that looked at; no answer is changed by what is done with the tree, or with another answer.
func TestTreesAreLeft(t *testing.T) {
	for _, x := range someTrees(t, 132, 150) {
		wide := roomy(x)
		before := dumped(wide)
		u, at, err := lower.Lower(wide)
		want := dumped(u)
		again, place, number := lower.Lower(wide)
		if dumped(wide) != before {
			t.Error("a tree was changed")
		}
		plain, _, _ := lower.Lower(x)
		if shown(again) != shown(u) || shown(plain) != shown(u) || place != at || number != err {
			t.Error("another answer")
		}
		scribble(reflect.ValueOf(&again).Elem())
		scribble(reflect.ValueOf(&wide).Elem())
		if dumped(u) != want {
			t.Error("an answer was changed")
		}
	}
}

// An answer hangs on its tree alone: not on what was asked before, or is asked at the same time.
func TestAnswersAtOnce(t *testing.T) {
	trees := someTrees(t, 133, 60)
	var want []string
	for _, x := range trees {
		u, at, err := lower.Lower(x)
		want = append(want, shown(u)+fmt.Sprint(at, err))
	}
	var group sync.WaitGroup
	for worker := range 8 {
		group.Go(func() {
			for i := range trees {
				i = (i*7 + worker) % len(trees)
				if u, at, err := lower.Lower(trees[i]); shown(u)+fmt.Sprint(at, err) != want[i] {
					t.Error("another answer")
				}
			}
		})
	}
	group.Wait()
}

// What variables and labels are called, and where things stand, changes nothing.
func TestNames(t *testing.T) {
	source := in("let aa = 1; bb: while aa < 3 { each cc in m { let dd = cc; if dd == aa { continue bb; } m[dd] = aa; break; } aa = aa + 1; }")
	want, _, _ := lower.Lower(read(t, source))
	for _, other := range []string{
		strings.NewReplacer("aa", "zz", "bb", "aa", "cc", "bb", "dd", "cc").Replace(source),
		strings.NewReplacer("cc in", "long_name in", "= cc", "= long_name").Replace(source),
		strings.NewReplacer(" { ", "\n{\n", ";", "  ;").Replace(source),
	} {
		u, _, err := lower.Lower(read(t, other))
		if err != api.OK || shown(u) != shown(want) {
			t.Errorf("P13.1: %s: another unit: %d", other, err)
		}
	}
}

// A nil list and an empty one are the same.
func TestNilAndEmpty(t *testing.T) {
	empty := api.Tree{Records: []api.Decl{}, Maps: []api.Decl{}, Funcs: []api.Decl{}, Events: []api.Decl{{Name: "e", Params: []api.Param{}, Body: []api.Stmt{{Kind: api.SReturn, Args: []api.Expr{}, Body: []api.Stmt{}, Else: []api.Stmt{}}}}}}
	plain := api.Tree{Events: []api.Decl{{Name: "e", Body: []api.Stmt{{Kind: api.SReturn}}}}}
	one, _, _ := lower.Lower(empty)
	other, _, err := lower.Lower(plain)
	if shown(one) != shown(other) || err != api.OK {
		t.Errorf("%s, %s: %d", shown(one), shown(other), err)
	}
	nothing, at, err := lower.Lower(api.Tree{})
	if shown(nothing) != shown(api.Unit{}) || at != 0 || err != api.OK {
		t.Errorf("P13.1: of no declarations: %s, %d at %d", shown(nothing), err, at)
	}
}
