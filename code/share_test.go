package code_test

import (
	"math/rand"
	"reflect"
	"slices"
	"strconv"
	"strings"
	"sync"
	"testing"
	"unsafe"

	"windlass/api"
	"windlass/code"
)

// span: where a list or a text lies, its spare room too.
type span struct{ from, to uintptr }

func spans(v reflect.Value) []span {
	var list []span
	switch v.Kind() {
	case reflect.String:
		// The library keeps texts of one byte for all.
		if s := v.String(); len(s) > 1 {
			from := uintptr(unsafe.Pointer(unsafe.StringData(s)))
			list = append(list, span{from, from + uintptr(len(s))})
		}
	case reflect.Slice:
		if v.Cap() > 0 {
			list = append(list, span{v.Pointer(), v.Pointer() + uintptr(v.Cap())*v.Type().Elem().Size()})
		}
		for i := range v.Len() {
			list = append(list, spans(v.Index(i))...)
		}
	case reflect.Struct:
		for i := range v.NumField() {
			list = append(list, spans(v.Field(i))...)
		}
	}
	return list
}

func spansOf(all ...any) []span {
	var list []span
	for _, x := range all {
		list = append(list, spans(reflect.ValueOf(x))...)
	}
	return list
}

// dump: all that hangs on a value, the spare room of its lists too.
func dump(v reflect.Value, out *strings.Builder) {
	switch v.Kind() {
	case reflect.String:
		out.WriteString(strconv.Quote(v.String()))
	case reflect.Slice:
		out.WriteString("[" + strconv.Itoa(v.Len()) + ":")
		for i := range v.Cap() {
			dump(v.Slice(0, v.Cap()).Index(i), out)
		}
		out.WriteString("]")
	case reflect.Struct:
		for i := range v.NumField() {
			dump(v.Field(i), out)
		}
	case reflect.Uint8:
		out.WriteString(strconv.FormatUint(v.Uint(), 10) + ",")
	default:
		out.WriteString(strconv.FormatInt(v.Int(), 10) + ",")
	}
}

func dumped(x any) string {
	var out strings.Builder
	dump(reflect.ValueOf(x), &out)
	return out.String()
}

// scribble writes over all lists that hang on a value, and the room behind them.
func scribble(v reflect.Value) {
	switch v.Kind() {
	case reflect.Slice:
		for i := range v.Cap() {
			scribble(v.Slice(0, v.Cap()).Index(i))
		}
	case reflect.Struct:
		for i := range v.NumField() {
			scribble(v.Field(i))
		}
	case reflect.String:
		if v.CanSet() {
			v.SetString("scribbled")
		}
	case reflect.Uint8:
		v.SetUint(v.Uint() + 77)
	default:
		if v.CanSet() {
			v.SetInt(v.Int() + 77)
		}
	}
}

// roomy: a copy with room behind each list, in which something stands.
func roomy(c api.Code) api.Code {
	c = full(c)
	for _, v := range parts(reflect.ValueOf(&c).Elem(), "") {
		if v.Kind() == reflect.Slice {
			length := v.Len()
			more := reflect.New(v.Type().Elem()).Elem()
			scribble(more)
			v.Set(reflect.Append(v, more, more))
			v.SetLen(length)
		}
	}
	return c
}

// Nothing that is handed in is changed or looked at behind its end; the answers are those of codes without room.
func TestArgumentsAreLeft(t *testing.T) {
	k := maker{rand.New(rand.NewSource(104))}
	for range 500 {
		c := k.code()
		if k.Intn(2) == 0 {
			k.spoil(&c)
		}
		b, err := code.Encode(c)
		wide := roomy(c)
		before := dumped(wide)
		wideBytes, wideErr := code.Encode(wide)
		if code.Is(c) != code.Is(wide) || !slices.Equal(b, wideBytes) || err != wideErr || !code.Same(c, wide) {
			t.Errorf("%v: another answer with room behind", c)
		}
		for _, f := range bodies(wide) {
			for _, o := range f.Ops {
				used, ok := code.Uses(wide.Program, o)
				if again, isTold := code.Uses(c.Program, o); !slices.Equal(used, again) || ok != isTold {
					t.Errorf("%v: another answer with room behind", o)
				}
				code.Gives(wide.Program, o)
			}
		}
		room := append(slices.Clone(b), 1, 2, 3)
		code.Decode(room[:len(b)])
		if dumped(wide) != before || !slices.Equal(room, append(slices.Clone(b), 1, 2, 3)) {
			t.Errorf("%v: an argument was changed", c)
		}
	}
}

func wantApart(t *testing.T, what string, lists []span, others []span) {
	t.Helper()
	for i, a := range lists {
		for _, b := range append(slices.Clone(lists[:i]), others...) {
			if a.from < b.to && b.from < a.to {
				t.Fatalf("%s: memory that is shared", what)
			}
		}
	}
}

// What is answered shares no memory with an argument or another answer; no two lists of it share any.
func TestAnswersShareNothing(t *testing.T) {
	k := maker{rand.New(rand.NewSource(105))}
	codes := []api.Code{sample(), every()}
	for range 100 {
		codes = append(codes, k.code())
	}
	for _, c := range codes {
		b, other := encoded(t, c), encoded(t, c)
		wantApart(t, "Encode", spansOf(b), spansOf(c, other))
		one, _ := code.Decode(b)
		two, _ := code.Decode(b)
		wantApart(t, "Decode", spansOf(one), spansOf(two, b, c))
		for _, f := range bodies(c) {
			for _, o := range f.Ops {
				used, _ := code.Uses(c.Program, o)
				again, _ := code.Uses(c.Program, o)
				wantApart(t, "Uses", spansOf(used), spansOf(again, c))
			}
		}
	}
}

// No answer is touched by what is done with another one, or with what was handed in.
func TestAnswersStay(t *testing.T) {
	k := maker{rand.New(rand.NewSource(106))}
	for range 300 {
		c := k.code()
		b := encoded(t, c)
		wantBytes := dumped(b)
		one, _ := code.Decode(b)
		want := dumped(one)
		two, _ := code.Decode(b)
		scribble(reflect.ValueOf(&two).Elem())
		scribble(reflect.ValueOf(&c).Elem())
		if dumped(one) != want || dumped(b) != wantBytes {
			t.Error("an answer was changed by another one's change")
		}
		kept := slices.Clone(b)
		scribble(reflect.ValueOf(&b).Elem())
		if dumped(one) != want {
			t.Error("a code was changed by its bytes' change")
		}
		if again, err := code.Decode(kept); err != api.OK || dumped(again) != want {
			t.Errorf("another answer: %d", err)
		}
	}
}

// An answer hangs on its arguments alone: not on what was asked before, or is asked at the same time.
func TestAnswersAtOnce(t *testing.T) {
	k := maker{rand.New(rand.NewSource(107))}
	var codes []api.Code
	var want [][]byte
	for range 200 {
		c := k.code()
		k.spoil(&c)
		b, _ := code.Encode(c)
		codes, want = append(codes, c), append(want, b)
	}
	var group sync.WaitGroup
	for worker := range 8 {
		group.Go(func() {
			for i := range codes {
				i = (i*7 + worker) % len(codes)
				b, err := code.Encode(codes[i])
				if !slices.Equal(b, want[i]) || (err == api.OK) != code.Is(codes[i]) {
					t.Errorf("%v: another answer", codes[i])
				}
				if c, err := code.Decode(b); err == api.OK && !code.Same(c, codes[i]) {
					t.Errorf("%v: another answer", codes[i])
				}
			}
		})
	}
	group.Wait()
}
