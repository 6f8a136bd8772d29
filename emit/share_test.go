package emit_test

import (
	"reflect"
	"runtime"
	"slices"
	"strings"
	"sync"
	"testing"
	"unsafe"

	"windlass/api"
	"windlass/emit"
)

// span: where a list or a text lies, its spare room too; what hangs on that counts, too.
type span struct{ from, to uintptr }

func spans(v reflect.Value) []span {
	var list []span
	switch v.Kind() {
	case reflect.String:
		if s := v.String(); s != "" {
			from := uintptr(unsafe.Pointer(unsafe.StringData(s)))
			list = append(list, span{from, from + uintptr(len(s))})
		}
	case reflect.Slice:
		if v.Cap() > 0 {
			list = append(list, span{v.Pointer(), v.Pointer() + uintptr(v.Cap())*v.Type().Elem().Size()})
		}
		for i := range v.Cap() {
			list = append(list, spans(v.Slice(0, v.Cap()).Index(i))...)
		}
	case reflect.Struct:
		for i := range v.NumField() {
			list = append(list, spans(v.Field(i))...)
		}
	}
	return list
}

// wantApart: that no two of these share anything, nor one of them and one of the others.
func wantApart(t *testing.T, mine, others []span) {
	t.Helper()
	isMine := map[span]bool{}
	for _, s := range mine {
		if isMine[s] {
			t.Fatal("memory that is shared")
		}
		isMine[s] = true
	}
	all := append(slices.Clone(mine), others...)
	slices.SortFunc(all, func(a, b span) int { return int(a.from) - int(b.from) })
	for i := 1; i < len(all); i++ {
		if all[i].from < all[i-1].to && (isMine[all[i]] || isMine[all[i-1]]) {
			t.Fatal("memory that is shared")
		}
	}
}

// scribble writes over all lists that hang on a value, and the room behind them.
func scribble(v reflect.Value) {
	switch v.Kind() {
	case reflect.Slice:
		for i := range v.Cap() {
			scribble(v.Slice(0, v.Cap()).Index(i))
		}
	case reflect.Struct:
		for i := range v.NumField() {
			scribble(v.Field(i))
		}
	case reflect.String:
		v.SetString("scribbled")
	default:
		v.SetInt(v.Int() + 77)
	}
}

// namesAndTexts: a source with names and texts of each sort, some of which are alike.
const namesAndTexts = `record Part { x: int, part: text } map part: int -> Part; map other: text -> Part; fn x(part2: Part, part3: Part) -> Part { return Part{part: "part", x: 1}; } on part(x: int, y: Part) { emit "part" & ""; emit ask part("part"); emit ask x("Part"); part[1 + 2] = x(y, y); } on x() { emit "par" & "t"; after 1 part(3, Part{x: 1, part: ""}); }`

// What is answered shares no memory with the source, or with another answer; no two lists or texts of it share any.
func TestAnswersShareNothing(t *testing.T) {
	for _, source := range append(someSources(193, 12), namesAndTexts, "") {
		source = strings.Clone(source)
		for passes := range subsets() {
			one, _, _ := emit.Unit(source, passes)
			other, _, _ := emit.Unit(source, passes)
			c, _, _ := emit.Compile(source, passes)
			d, _, _ := emit.Compile(source, passes)
			others := slices.Concat(spans(reflect.ValueOf(source)), spans(reflect.ValueOf(other)), spans(reflect.ValueOf(d)))
			wantApart(t, spans(reflect.ValueOf(one)), append(others, spans(reflect.ValueOf(c))...))
			wantApart(t, spans(reflect.ValueOf(c)), others)
			runtime.KeepAlive([]any{source, one, other, c, d}) // what lies where is known of what is kept alone
		}
	}
}

// No answer is changed by what is done with another one.
func TestAnswersAreLeft(t *testing.T) {
	for i, source := range append(someSources(194, 20), namesAndTexts) {
		u, _, _ := emit.Unit(source, i%16)
		c, _, _ := emit.Compile(source, i%16)
		before, coded := shown(u), shown(c)
		v, _, _ := emit.Unit(source, i%16)
		d, _, _ := emit.Compile(source, i%16)
		scribble(reflect.ValueOf(&v).Elem())
		scribble(reflect.ValueOf(&d).Elem())
		again, _, _ := emit.Unit(source, i%16)
		if shown(u) != before || shown(c) != coded || shown(again) != before {
			t.Errorf("P18.3: an answer was changed: %s", source)
		}
	}
}

// An answer hangs on the source and the passes alone: not on what is asked at the same time.
func TestAnswersAtOnce(t *testing.T) {
	sources := append(someSources(195, 20), namesAndTexts, "on e() { x = ; }", "on e() { x = 1; }")
	answer := func(i int) string {
		c, at, err := emit.Compile(sources[i], i%16)
		u, _, _ := emit.Unit(sources[i], i*7%16)
		return shown(c) + shown(u) + shown([]int{at, int(err)})
	}
	var want []string
	for i := range sources {
		want = append(want, answer(i))
	}
	var group sync.WaitGroup
	for worker := range 8 {
		group.Go(func() {
			for i := range sources {
				i = (i*7 + worker) % len(sources)
				if answer(i) != want[i] {
					t.Error("P18.3: another answer")
				}
			}
		})
	}
	group.Wait()
}

// What is answered is zero but for what is promised: a list of no one is empty.
func TestNothingBeside(t *testing.T) {
	u := unitOf(t, "on e() { }", allPasses)
	if len(u.Ints)+len(u.Texts)+len(u.Funcs)+len(u.Program.Maps)+len(u.Program.Records)+len(u.Program.Funcs) != 0 || len(u.Events) != 1 || u.Program.Events[0].Name != "e" || u.Program.Events[0].Result != (api.Type{}) {
		t.Errorf("P18.1: %s", shown(u))
	}
}
