package vm_test

import (
	"math/rand"
	"reflect"
	"slices"
	"strconv"
	"strings"
	"sync"
	"testing"
	"unsafe"

	"windlass/api"
	"windlass/vm"
)

// span: where a list or a text lies, its spare room too.
type span struct{ from, to uintptr }

func spans(v reflect.Value) []span {
	var list []span
	switch v.Kind() {
	case reflect.String:
		if s := v.String(); len(s) > 0 {
			from := uintptr(unsafe.Pointer(unsafe.StringData(s)))
			list = append(list, span{from, from + uintptr(len(s))})
		}
	case reflect.Slice:
		if v.Cap() > 0 {
			list = append(list, span{v.Pointer(), v.Pointer() + uintptr(v.Cap())*v.Type().Elem().Size()})
		}
		for i := range v.Len() {
			list = append(list, spans(v.Index(i))...)
		}
	case reflect.Struct:
		for i := range v.NumField() {
			list = append(list, spans(v.Field(i))...)
		}
	}
	return list
}

func spansOf(all ...any) []span {
	var list []span
	for _, x := range all {
		list = append(list, spans(reflect.ValueOf(x))...)
	}
	return list
}

// dump: all that hangs on a value, the spare room of its lists too.
func dump(v reflect.Value, out *strings.Builder) {
	switch v.Kind() {
	case reflect.String:
		out.WriteString(strconv.Quote(v.String()))
	case reflect.Slice:
		out.WriteString("[" + strconv.Itoa(v.Len()) + ":")
		for i := range v.Cap() {
			dump(v.Slice(0, v.Cap()).Index(i), out)
		}
		out.WriteString("]")
	case reflect.Struct:
		for i := range v.NumField() {
			dump(v.Field(i), out)
		}
	default:
		out.WriteString(strconv.FormatInt(v.Int(), 10) + ",")
	}
}

func dumped(all ...any) string {
	var out strings.Builder
	for _, x := range all {
		dump(reflect.ValueOf(x), &out)
	}
	return out.String()
}

// scribble writes over all lists that hang on a value, and the room behind them.
func scribble(v reflect.Value) {
	switch v.Kind() {
	case reflect.Slice:
		for i := range v.Cap() {
			scribble(v.Slice(0, v.Cap()).Index(i))
		}
	case reflect.Struct:
		for i := range v.NumField() {
			scribble(v.Field(i))
		}
	case reflect.String:
		v.SetString("scribbled")
	default:
		v.SetInt(v.Int() + 77)
	}
}

// roomy: a copy with room behind each list, in which something stands; its texts lie in memory of their own.
func roomy[T any](x T) T {
	return roomyValue(reflect.ValueOf(x)).Interface().(T)
}

func roomyValue(v reflect.Value) reflect.Value {
	fresh := reflect.New(v.Type()).Elem()
	switch v.Kind() {
	case reflect.Slice:
		n := v.Len()
		fresh.Set(reflect.MakeSlice(v.Type(), n+2, n+2))
		scribble(fresh)
		for i := range n {
			fresh.Index(i).Set(roomyValue(v.Index(i)))
		}
		return fresh.Slice(0, n)
	case reflect.Struct:
		for i := range v.NumField() {
			fresh.Field(i).Set(roomyValue(v.Field(i)))
		}
		return fresh
	case reflect.String:
		fresh.SetString(strings.Clone(v.String()))
		return fresh
	}
	return v
}

// given: what is handed to a run.
type given struct {
	c       api.Code
	s       api.State
	e       api.Event
	answers []string
	waiting int
}

func (g given) run() (api.Outcome, api.Errno) { return vm.Run(g.c, g.s, g.e, g.answers, g.waiting) }
func (g given) trace() (int, int, api.Errno)  { return vm.Trace(g.c, g.s, g.e, g.answers, g.waiting) }
func (g given) lists() []any                  { return []any{g.c, g.s, g.e, g.answers} }

func (g given) roomy() given {
	return given{roomy(g.c), roomy(g.s), roomy(g.e), roomy(g.answers), g.waiting}
}

// runs: some by chance, and some in which records go everywhere.
func (k maker) runs(codes int, each func(g given)) {
	for range codes {
		c := k.code()
		for range 4 {
			each(given{c, k.state(c.Program), k.event(c.Program), k.answers()[:k.Intn(6)], k.Intn(6)})
		}
		c, s, e := busy()
		each(given{c, s, e, []string{"answer", "second"}[:1+k.Intn(2)], 0})
	}
}

// busy: a run that leaves records of its event, of its state, of functions and of its own in its state, its timers and texts in its emissions and requests, some more than once.
func busy() (api.Code, api.State, api.Event) {
	args := []api.Value{pairOf(7, "of the event"), texted("question"), numbered(3)}
	c := coded(typesOf(args),
		put(2, 0, pairs), after(2, 0, onPair), after(2, 0, onPair), // the event's record, three times
		op(api.IGet, 3, 2, 0, pairs), after(2, 3, onPair), // the state's own
		op(api.IMove, 4, 2), op(api.IMove, 5, 1), op(api.IMake, 6, 4, 0, 0), after(2, 6, onPair), set(4, one), put(4, 6, pairs), set(4, many), put(4, 6, pairs),
		call(7, regs, fnFlag), after(2, 7, onFlag), after(2, 7, onFlag),
		set(8, zero), op(api.IGet, 9, 8, 0, pairs), after(2, 9, onPair), put(8, 9, pairs), // a zero
		emit(1), emit(1), ask(10, 1, port), emit(10), put(1, 10, texts), put(10, 1, texts), say(11, other), emit(11), put(11, 11, texts), ask(12, 10, other), emit(12),
	)
	s := filled(pairs, numbered(1), pairOf(1, "of the state"), numbered(5), pairOf(5, "also"))
	s.Maps[texts] = filled(texts, texted("left"), texted("as it is")).Maps[texts]
	return c, s, eventOf(args...)
}

// The run above comes to its end with all that it should leave.
func TestBusy(t *testing.T) {
	c, s, e := busy()
	o := run(t, c, s, e, []string{"answer", "second"}, 0)
	if wantDone(t, "busy", o); len(o.Plans) != 7 || len(o.Emits) != 5 || len(o.State.Maps[pairs]) != 5 || len(o.State.Maps[texts]) != 4 || len(o.Requests) != 2 {
		t.Errorf("%s", shown(o))
	}
}

// Nothing that is handed in is changed or looked at behind its end; the answers are those of arguments without room.
func TestArgumentsAreLeft(t *testing.T) {
	k := maker{rand.New(rand.NewSource(124))}
	k.runs(60, func(g given) {
		wide := g.roomy()
		before := dumped(wide.lists()...)
		o, err := g.run()
		other, otherErr := wide.run()
		done, longest, _ := g.trace()
		otherDone, otherLongest, _ := wide.trace()
		if shown(o) != shown(other) || err != otherErr || done != otherDone || longest != otherLongest {
			t.Errorf("another answer with room behind: %s, %s", shown(o), shown(other))
		}
		if dumped(wide.lists()...) != before {
			t.Errorf("an argument was changed")
		}
	})
}

// What is answered shares no memory with an argument or another answer; no two lists or texts of it share any.
func TestAnswersShareNothing(t *testing.T) {
	k := maker{rand.New(rand.NewSource(125))}
	k.runs(60, func(g given) {
		g = g.roomy()
		first, _ := g.run()
		second, _ := g.run()
		wantApart(t, spansOf(first), spansOf(append(g.lists(), second)...))
	})
}

func wantApart(t *testing.T, lists []span, others []span) {
	t.Helper()
	for i, a := range lists {
		for _, b := range append(slices.Clone(lists[:i]), others...) {
			if a.from < b.to && b.from < a.to {
				t.Fatal("memory that is shared")
			}
		}
	}
}

// No answer is touched by what is done with another one, or with what was handed in.
func TestAnswersStay(t *testing.T) {
	k := maker{rand.New(rand.NewSource(126))}
	k.runs(60, func(g given) {
		g = g.roomy()
		o, err := g.run()
		before := dumped(o)
		other, otherErr := g.run()
		scribble(reflect.ValueOf(&other).Elem())
		scribble(reflect.ValueOf(&g.c).Elem())
		scribble(reflect.ValueOf(&g.s).Elem())
		scribble(reflect.ValueOf(&g.e).Elem())
		scribble(reflect.ValueOf(&g.answers).Elem())
		if dumped(o) != before || err != api.OK || otherErr != api.OK {
			t.Errorf("an answer was changed by another one's change")
		}
	})
}

// An answer hangs on its arguments alone: not on what was asked before, or is asked at the same time.
func TestAnswersAtOnce(t *testing.T) {
	k := maker{rand.New(rand.NewSource(127))}
	var list []given
	k.runs(12, func(g given) { list = append(list, g) })
	var group sync.WaitGroup
	for worker := range 8 {
		group.Go(func() {
			for i := range list {
				g := list[(i*7+worker)%len(list)]
				want(t, g.c, g.s, g.e, g.answers, g.waiting)
			}
		})
	}
	group.Wait()
}

// A nil list and an empty one are the same.
func TestNilAndEmpty(t *testing.T) {
	c := coded(nil, ask(0, 1, port))
	c.Events[onE].Ops = []api.Op{charge(), say(1, other), ask(0, 1, port), end()}
	none := api.State{Maps: [][]api.Entry{{}, nil, {}, nil}}
	o := run(t, c, none, api.Event{Name: "e", Args: []api.Value{}}, []string{}, 0)
	other := run(t, c, blank(), api.Event{Name: "e"}, nil, 0)
	if shown(o) != shown(other) || o.End != api.Waits {
		t.Errorf("%s, %s", shown(o), shown(other))
	}
	// Of a value, too.
	c = coded([]api.Type{intType, textType}, told(0, intType)...)
	hollow := []api.Value{{Kind: api.Int, Int: 1, Fields: []api.Value{}}, {Kind: api.Text, Fields: make([]api.Value, 0, 3)}}
	o = run(t, c, blank(), eventOf(hollow...), nil, 0)
	wantValue(t, "hollow", o, numbered(1))
}
