package types_test

import (
	"math/rand"
	"reflect"
	"slices"
	"strconv"
	"strings"
	"sync"
	"testing"
	"unsafe"

	"windlass/api"
	"windlass/types"
)

// span: where a list or a text lies, its spare room too.
type span struct{ from, to uintptr }

func spans(v reflect.Value) []span {
	var list []span
	switch v.Kind() {
	case reflect.String:
		if s := v.String(); s != "" {
			from := uintptr(unsafe.Pointer(unsafe.StringData(s)))
			list = append(list, span{from, from + uintptr(len(s))})
		}
	case reflect.Slice:
		if v.Cap() > 0 {
			list = append(list, span{v.Pointer(), v.Pointer() + uintptr(v.Cap())*v.Type().Elem().Size()})
		}
		for i := range v.Len() {
			list = append(list, spans(v.Index(i))...)
		}
	case reflect.Struct:
		for i := range v.NumField() {
			list = append(list, spans(v.Field(i))...)
		}
	}
	return list
}

// dump: all that hangs on a value, the spare room of its lists too.
func dump(v reflect.Value, out *strings.Builder) {
	switch v.Kind() {
	case reflect.String:
		out.WriteString(strconv.Quote(v.String()))
	case reflect.Slice:
		out.WriteString("[" + strconv.Itoa(v.Len()) + ":")
		for i := range v.Cap() {
			dump(v.Slice(0, v.Cap()).Index(i), out)
		}
		out.WriteString("]")
	case reflect.Struct:
		for i := range v.NumField() {
			dump(v.Field(i), out)
		}
	default:
		out.WriteString(strconv.FormatInt(v.Int(), 10) + ",")
	}
}

func dumped(x any) string {
	var out strings.Builder
	dump(reflect.ValueOf(x), &out)
	return out.String()
}

// scribble writes over all lists that hang on a value, and the room behind them.
func scribble(v reflect.Value) {
	switch v.Kind() {
	case reflect.Slice:
		for i := range v.Len() {
			scribble(v.Index(i))
		}
		for i := range v.Cap() {
			element := v.Slice(0, v.Cap()).Index(i)
			if element.Kind() == reflect.String {
				element.SetString("scribbled")
			} else {
				element.SetZero()
				element.Field(0).Set(reflect.ValueOf(map[reflect.Kind]any{reflect.Int: 77, reflect.String: "scribbled"}[element.Field(0).Kind()]))
			}
		}
	case reflect.Struct:
		for i := range v.NumField() {
			scribble(v.Field(i))
		}
	}
}

// P8.1, P8.4: what is answered shares no memory with the tree, or with another answer; no two lists of it share any.
func TestAnswersShareNothing(t *testing.T) {
	k := maker{Rand: rand.New(rand.NewSource(86))}
	trees := []api.Tree{read(t, in("do i;"))}
	for range 50 {
		trees = append(trees, k.whole())
	}
	for _, x := range trees {
		one, _, err := types.Check(x)
		other, _, _ := types.Check(x)
		mine, others := spans(reflect.ValueOf(one)), append(spans(reflect.ValueOf(other)), spans(reflect.ValueOf(x))...)
		if err != api.OK || len(mine) == 0 || len(mine) != len(spans(reflect.ValueOf(other))) {
			t.Fatalf("%s: %d: %d lists and texts", shown(x), err, len(mine))
		}
		for i, a := range mine {
			for _, b := range append(slices.Clone(mine[:i]), others...) {
				if a.from < b.to && b.from < a.to {
					t.Fatalf("%s: memory that is shared", shown(x))
				}
			}
		}
	}
	p, _, _ := types.Check(api.Tree{Records: make([]api.Decl, 0, 3), Events: append(make([]api.Decl, 0, 3), api.Decl{Name: "e", Params: make([]api.Param, 0, 3)})})
	if cap(p.Records)+cap(p.Maps)+cap(p.Funcs)+cap(p.Events[0].Params) != 0 {
		t.Error("an empty list's room was kept")
	}
}

// No tree is changed, nor the room behind its lists; no answer is by what is done with the tree, or with another answer.
func TestTreesAreLeft(t *testing.T) {
	k := maker{Rand: rand.New(rand.NewSource(87))}
	for range 300 {
		x := placed(k.whole())
		if k.Intn(2) == 0 {
			k.spoil(&x)
			x = placed(x)
		}
		before := dumped(x)
		p, at, err := types.Check(x)
		want := dumped(p)
		if dumped(x) != before {
			t.Errorf("%s was changed", shown(x))
		}
		again, place, number := types.Check(x)
		if dumped(again) != want || place != at || number != err {
			t.Errorf("%s: another answer", shown(x))
		}
		scribble(reflect.ValueOf(again))
		third, _, _ := types.Check(x)
		if dumped(x) != before || dumped(p) != want || dumped(third) != want {
			t.Errorf("%s: changed by another answer's change", shown(x))
		}
		scribble(reflect.ValueOf(x))
		if dumped(p) != want {
			t.Error("an answer was changed by its tree's change")
		}
	}
}

// An answer hangs on its tree alone: not on what was asked before, or is asked at the same time.
func TestAnswersAtOnce(t *testing.T) {
	type answer struct {
		p   api.Program
		at  int
		err api.Errno
	}
	k := maker{Rand: rand.New(rand.NewSource(88))}
	var trees []api.Tree
	var want []answer
	for range 200 {
		x := k.whole()
		k.spoil(&x)
		x = placed(x)
		p, at, err := types.Check(x)
		trees, want = append(trees, x), append(want, answer{p, at, err})
	}
	var group sync.WaitGroup
	for worker := range 8 {
		group.Go(func() {
			for i := range trees {
				i = (i*7 + worker) % len(trees)
				p, at, err := types.Check(trees[i])
				if at != want[i].at || err != want[i].err || !equal(p, want[i].p) {
					t.Errorf("%s: another answer", shown(trees[i]))
				}
			}
		})
	}
	group.Wait()
}

// As deep as DOC.md's rules go, and a fault far within.
func TestDeepTrees(t *testing.T) {
	const deep = 1<<16 - 8
	e := api.Expr{Kind: api.EVar, Name: "a", At: 3}
	s := api.Stmt{Kind: api.SSet, Name: "a", Args: []api.Expr{{Kind: api.EBool}}, At: 4}
	l := api.Stmt{Kind: api.SBreak, Name: "l", At: 5}
	for range deep {
		e = api.Expr{Kind: api.EUnary, Op: api.ONot, Args: []api.Expr{e}}
		s = api.Stmt{Kind: api.SIf, Args: []api.Expr{{Kind: api.EBool}}, Else: []api.Stmt{s}}
		l = api.Stmt{Kind: api.SWhile, Args: []api.Expr{{Kind: api.EBool}}, Body: []api.Stmt{l}}
	}
	outside := l
	outside.Label = "l"
	tree := func(params []api.Param, body ...api.Stmt) api.Tree {
		return api.Tree{Events: []api.Decl{{Name: "e", Params: params, Body: body}}}
	}
	a := []api.Param{{Name: "a", Type: "bool"}}
	wantTold(t, tree(a, api.Stmt{Kind: api.SDo, Args: []api.Expr{e}}, s, outside), 0, api.OK)
	wantTold(t, tree(nil, api.Stmt{Kind: api.SDo, Args: []api.Expr{e}}), 3, api.ErrTypeName)
	wantTold(t, tree(nil, s), 4, api.ErrTypeName)
	wantTold(t, tree(nil, l), 5, api.ErrTypeLoop)
}
