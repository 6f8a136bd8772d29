package verify_test

import (
	"math/rand"
	"reflect"
	"slices"
	"strconv"
	"strings"
	"sync"
	"testing"
	"unsafe"

	"windlass/api"
	"windlass/verify"
)

// span: where a list or a text lies, its spare room too.
type span struct{ from, to uintptr }

func spans(v reflect.Value) []span {
	var list []span
	switch v.Kind() {
	case reflect.String:
		// The library keeps texts of one byte for all.
		if s := v.String(); len(s) > 1 {
			from := uintptr(unsafe.Pointer(unsafe.StringData(s)))
			list = append(list, span{from, from + uintptr(len(s))})
		}
	case reflect.Slice:
		if v.Cap() > 0 {
			list = append(list, span{v.Pointer(), v.Pointer() + uintptr(v.Cap())*v.Type().Elem().Size()})
		}
		for i := range v.Len() {
			list = append(list, spans(v.Index(i))...)
		}
	case reflect.Struct:
		for i := range v.NumField() {
			list = append(list, spans(v.Field(i))...)
		}
	}
	return list
}

func spansOf(all ...any) []span {
	var list []span
	for _, x := range all {
		list = append(list, spans(reflect.ValueOf(x))...)
	}
	return list
}

// dump: all that hangs on a value, the spare room of its lists too.
func dump(v reflect.Value, out *strings.Builder) {
	switch v.Kind() {
	case reflect.String:
		out.WriteString(strconv.Quote(v.String()))
	case reflect.Slice:
		out.WriteString("[" + strconv.Itoa(v.Len()) + ":")
		for i := range v.Cap() {
			dump(v.Slice(0, v.Cap()).Index(i), out)
		}
		out.WriteString("]")
	case reflect.Struct:
		for i := range v.NumField() {
			dump(v.Field(i), out)
		}
	case reflect.Bool:
		out.WriteString(strconv.FormatBool(v.Bool()) + ",")
	default:
		out.WriteString(strconv.FormatInt(v.Int(), 10) + ",")
	}
}

func dumped(x any) string {
	var out strings.Builder
	dump(reflect.ValueOf(x), &out)
	return out.String()
}

// scribble writes over all lists that hang on a value, and the room behind them.
func scribble(v reflect.Value) {
	switch v.Kind() {
	case reflect.Slice:
		for i := range v.Cap() {
			scribble(v.Slice(0, v.Cap()).Index(i))
		}
	case reflect.Struct:
		for i := range v.NumField() {
			scribble(v.Field(i))
		}
	case reflect.String:
		v.SetString("scribbled")
	case reflect.Bool:
		v.SetBool(!v.Bool())
	default:
		v.SetInt(v.Int() + 77)
	}
}

// roomy: a copy with room behind each list, in which something stands.
func roomy[T any](x T) T {
	return roomyValue(reflect.ValueOf(x)).Interface().(T)
}

func roomyValue(v reflect.Value) reflect.Value {
	fresh := reflect.New(v.Type()).Elem()
	switch v.Kind() {
	case reflect.Slice:
		n := v.Len()
		fresh.Set(reflect.MakeSlice(v.Type(), n+2, n+2))
		scribble(fresh)
		for i := range n {
			fresh.Index(i).Set(roomyValue(v.Index(i)))
		}
		return fresh.Slice(0, n)
	case reflect.Struct:
		for i := range v.NumField() {
			fresh.Field(i).Set(roomyValue(v.Field(i)))
		}
		return fresh
	}
	return v
}

// Nothing that is handed in is changed or looked at behind its end; the answers are those of arguments without room.
func TestArgumentsAreLeft(t *testing.T) {
	k := maker{rand.New(rand.NewSource(114))}
	taken := 0
	for range 600 {
		c := k.code()
		if k.Intn(2) == 0 {
			k.spoil(&c)
		}
		wide := roomy(c)
		before := dumped(wide)
		fn, err := verify.Check(c)
		wideFn, wideErr := verify.Check(wide)
		bound, boundErr := verify.Bound(c)
		wideBound, wideBoundErr := verify.Bound(wide)
		if fn != wideFn || err != wideErr || bound != wideBound || boundErr != wideBoundErr {
			t.Errorf("%v: another answer with room behind", c)
		}
		for at := -1; at <= functionCount; at++ {
			types, typesErr := verify.Types(c, at)
			wideTypes, wideTypesErr := verify.Types(wide, at)
			if typesErr != wideTypesErr || !sameTypes(types, wideTypes) {
				t.Errorf("%v: other types with room behind", c)
			}
		}
		if dumped(wide) != before {
			t.Errorf("%v: an argument was changed", c)
		}
		if err == api.OK {
			taken++
		}
	}
	if taken < 50 {
		t.Errorf("only %d are taken", taken)
	}
}

// What is answered shares no memory with an argument or another answer; no two lists of it share any.
func TestAnswersShareNothing(t *testing.T) {
	k := maker{rand.New(rand.NewSource(115))}
	codes := []api.Code{sample(), with(onTwo, 2, charge(), end(), charge(), end())}
	for range 200 {
		codes = append(codes, k.code())
	}
	for _, c := range codes {
		for fn := range functionCount {
			one, _ := verify.Types(c, fn)
			two, _ := verify.Types(c, fn)
			wantApart(t, spansOf(one), spansOf(two, c))
		}
	}
}

func wantApart(t *testing.T, lists []span, others []span) {
	t.Helper()
	for i, a := range lists {
		for _, b := range append(slices.Clone(lists[:i]), others...) {
			if a.from < b.to && b.from < a.to {
				t.Fatal("memory that is shared")
			}
		}
	}
}

// No answer is touched by what is done with another one, or with what was handed in.
func TestAnswersStay(t *testing.T) {
	k := maker{rand.New(rand.NewSource(116))}
	for range 300 {
		c := roomy(k.code())
		fn := k.Intn(functionCount)
		types, err := verify.Types(c, fn)
		before := dumped(types)
		other, otherErr := verify.Types(c, fn)
		scribble(reflect.ValueOf(&other).Elem())
		scribble(reflect.ValueOf(&c).Elem())
		if dumped(types) != before || err != otherErr {
			t.Error("an answer was changed by another one's change")
		}
	}
}

// An answer hangs on its arguments alone: not on what was asked before, or is asked at the same time.
func TestAnswersAtOnce(t *testing.T) {
	k := maker{rand.New(rand.NewSource(117))}
	var codes []api.Code
	for range 60 {
		c := k.code()
		if k.Intn(2) == 0 {
			k.spoil(&c)
		}
		codes = append(codes, c)
	}
	var group sync.WaitGroup
	for worker := range 8 {
		group.Go(func() {
			for i := range codes {
				want(t, "at once", codes[(i*7+worker)%len(codes)])
			}
		})
	}
	group.Wait()
}
