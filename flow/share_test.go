package flow_test

import (
	"math/rand"
	"reflect"
	"slices"
	"strconv"
	"strings"
	"sync"
	"testing"
	"unsafe"

	"windlass/api"
	"windlass/code"
	"windlass/flow"
)

// span: where a list or a text lies, its spare room too.
type span struct{ from, to uintptr }

func spans(v reflect.Value) []span {
	var list []span
	switch v.Kind() {
	case reflect.String:
		// The library keeps texts of one byte for all.
		if s := v.String(); len(s) > 1 {
			from := uintptr(unsafe.Pointer(unsafe.StringData(s)))
			list = append(list, span{from, from + uintptr(len(s))})
		}
	case reflect.Slice:
		if v.Cap() > 0 {
			list = append(list, span{v.Pointer(), v.Pointer() + uintptr(v.Cap())*v.Type().Elem().Size()})
		}
		for i := range v.Len() {
			list = append(list, spans(v.Index(i))...)
		}
	case reflect.Struct:
		for i := range v.NumField() {
			list = append(list, spans(v.Field(i))...)
		}
	}
	return list
}

func spansOf(all ...any) []span {
	var list []span
	for _, x := range all {
		list = append(list, spans(reflect.ValueOf(x))...)
	}
	return list
}

// dump: all that hangs on a value, the spare room of its lists too.
func dump(v reflect.Value, out *strings.Builder) {
	switch v.Kind() {
	case reflect.String:
		out.WriteString(strconv.Quote(v.String()))
	case reflect.Slice:
		out.WriteString("[" + strconv.Itoa(v.Len()) + ":")
		for i := range v.Cap() {
			dump(v.Slice(0, v.Cap()).Index(i), out)
		}
		out.WriteString("]")
	case reflect.Struct:
		for i := range v.NumField() {
			dump(v.Field(i), out)
		}
	case reflect.Bool:
		out.WriteString(strconv.FormatBool(v.Bool()) + ",")
	default:
		out.WriteString(strconv.FormatInt(v.Int(), 10) + ",")
	}
}

func dumped(x any) string {
	var out strings.Builder
	dump(reflect.ValueOf(x), &out)
	return out.String()
}

// scribble writes over all lists that hang on a value, and the room behind them.
func scribble(v reflect.Value) {
	switch v.Kind() {
	case reflect.Slice:
		for i := range v.Cap() {
			scribble(v.Slice(0, v.Cap()).Index(i))
		}
	case reflect.Struct:
		for i := range v.NumField() {
			scribble(v.Field(i))
		}
	case reflect.String:
		v.SetString("scribbled")
	case reflect.Bool:
		v.SetBool(!v.Bool())
	default:
		v.SetInt(v.Int() + 77)
	}
}

// roomy: a copy with room behind each list, in which something stands.
func roomy[T any](x T) T {
	return roomyValue(reflect.ValueOf(x)).Interface().(T)
}

func roomyValue(v reflect.Value) reflect.Value {
	fresh := reflect.New(v.Type()).Elem()
	switch v.Kind() {
	case reflect.Slice:
		n := v.Len()
		fresh.Set(reflect.MakeSlice(v.Type(), n+2, n+2))
		scribble(fresh)
		for i := range n {
			fresh.Index(i).Set(roomyValue(v.Index(i)))
		}
		return fresh.Slice(0, n)
	case reflect.Struct:
		for i := range v.NumField() {
			fresh.Field(i).Set(roomyValue(v.Field(i)))
		}
		return fresh
	}
	return v
}

// Nothing that is handed in is changed or looked at behind its end; the answers are those of arguments without room.
func TestArgumentsAreLeft(t *testing.T) {
	k := maker{rand.New(rand.NewSource(107))}
	for range 500 {
		u := k.unit()
		if k.Intn(2) == 0 {
			k.spoil(graphOf(&u, k.Intn(5)))
		}
		wide := roomy(u)
		before := dumped(wide)
		c, err := flow.Flatten(u)
		wideCode, wideErr := flow.Flatten(wide)
		if !code.Same(c, wideCode) || err != wideErr || flow.Is(u) != flow.Is(wide) {
			t.Errorf("%v: another answer with room behind", u)
		}
		for at := range 5 {
			leaveGraph(t, *graphOf(&u, at), *graphOf(&wide, at))
		}
		if dumped(wide) != before {
			t.Errorf("%v: an argument was changed", u)
		}
	}
}

// leaveGraph: wide is g with room behind its lists.
func leaveGraph(t *testing.T, g, wide api.Graph) {
	t.Helper()
	f, err := flow.Fn(g)
	wideFn, wideErr := flow.Fn(wide)
	met, metErr := flow.Reached(g)
	wideMet, wideMetErr := flow.Reached(wide)
	if !sameFn(f, wideFn) || err != wideErr || !slices.Equal(met, wideMet) || metErr != wideMetErr {
		t.Errorf("%v: another answer with room behind", g)
	}
	room := roomy(f)
	before := dumped(room)
	steps, stepsErr := flow.Steps(f)
	wideSteps, wideStepsErr := flow.Steps(room)
	if !slices.Equal(steps, wideSteps) || stepsErr != wideStepsErr || dumped(room) != before {
		t.Errorf("%v: another answer with room behind, or a change", f)
	}
}

func wantApart(t *testing.T, what string, lists []span, others []span) {
	t.Helper()
	for i, a := range lists {
		for _, b := range append(slices.Clone(lists[:i]), others...) {
			if a.from < b.to && b.from < a.to {
				t.Fatalf("%s: memory that is shared", what)
			}
		}
	}
}

// What is answered shares no memory with an argument or another answer; no two lists of it share any.
func TestAnswersShareNothing(t *testing.T) {
	k := maker{rand.New(rand.NewSource(108))}
	units := []api.Unit{sample(), shared()}
	for range 200 {
		units = append(units, k.unit())
	}
	for _, u := range units {
		one, err := flow.Flatten(u)
		two, _ := flow.Flatten(u)
		if err != api.OK {
			t.Fatalf("%v: %d", u, err)
		}
		wantApart(t, "Flatten", spansOf(one), spansOf(two, u))
		for at := range 5 {
			g := *graphOf(&u, at)
			f, _ := flow.Fn(g)
			again, _ := flow.Fn(g)
			wantApart(t, "Fn", spansOf(f), spansOf(again, g))
			met, _ := flow.Reached(g)
			metAgain, _ := flow.Reached(g)
			wantApart(t, "Reached", spansOf(met), spansOf(metAgain, g))
			steps, _ := flow.Steps(f)
			stepsAgain, _ := flow.Steps(f)
			wantApart(t, "Steps", spansOf(steps), spansOf(stepsAgain, f))
		}
	}
}

// shared: a unit whose lists share their memory, which its code's may not.
func shared() api.Unit {
	u := sample()
	for at := range 5 {
		*graphOf(&u, at) = u.Events[0]
	}
	u.Program.Events[0].Params = u.Program.Records[0].Types
	u.Program.Funcs[0].Params = u.Program.Records[0].Types
	u.Program.Events[2].Params = u.Program.Records[0].Types
	u.Program.Events[1].Name = u.Program.Funcs[0].Name
	u.Texts = u.Program.Records[0].Fields
	return u
}

// No answer is touched by what is done with another one, or with what was handed in.
func TestAnswersStay(t *testing.T) {
	k := maker{rand.New(rand.NewSource(109))}
	for range 300 {
		u := roomy(k.unit())
		g := roomy(u.Events[0])
		c, _ := flow.Flatten(u)
		f, _ := flow.Fn(g)
		met, _ := flow.Reached(g)
		steps, _ := flow.Steps(f)
		want := dumped(c) + dumped(f) + dumped(met) + dumped(steps)
		other, _ := flow.Flatten(u)
		otherFn, _ := flow.Fn(g)
		otherMet, _ := flow.Reached(g)
		otherSteps, _ := flow.Steps(f)
		for _, x := range []any{&other, &otherFn, &otherMet, &otherSteps, &u, &g} {
			scribble(reflect.ValueOf(x).Elem())
		}
		if dumped(c)+dumped(f)+dumped(met)+dumped(steps) != want {
			t.Error("an answer was changed by another one's change")
		}
	}
}

// An answer hangs on its arguments alone: not on what was asked before, or is asked at the same time.
func TestAnswersAtOnce(t *testing.T) {
	k := maker{rand.New(rand.NewSource(110))}
	var units []api.Unit
	for range 200 {
		u := k.unit()
		k.spoil(graphOf(&u, k.Intn(5)))
		units = append(units, u)
	}
	var group sync.WaitGroup
	for worker := range 8 {
		group.Go(func() {
			for i := range units {
				u := units[(i*7+worker)%len(units)]
				wantUnit(t, "at once", u)
				wantGraph(t, u.Funcs[0])
				wantGraph(t, u.Events[2])
			}
		})
	}
	group.Wait()
}
