package parse_test

import (
	"math/rand"
	"reflect"
	"slices"
	"strings"
	"sync"
	"testing"
	"unsafe"

	"windlass/api"
	"windlass/lex"
	"windlass/parse"
	"windlass/tree"
)

// readsOtherwise: a - ahead of a field of an integer is printed as one ahead of the integer, which makes a literal (P6.3, P7.1): of trees that have one P7.4 can't hold.
func readsOtherwise(list []api.Expr) bool {
	return slices.ContainsFunc(list, func(e api.Expr) bool {
		return e.Op == api.ONeg && e.Args[0].Kind == api.EField && beginsWithInt(e.Args[0]) || readsOtherwise(e.Args)
	})
}

func stmtsReadOtherwise(list []api.Stmt) bool {
	return slices.ContainsFunc(list, func(s api.Stmt) bool {
		return readsOtherwise(s.Args) || stmtsReadOtherwise(s.Body) || stmtsReadOtherwise(s.Else)
	})
}

func treeReadsOtherwise(t api.Tree) bool {
	return slices.ContainsFunc(slices.Concat(t.Funcs, t.Events), func(d api.Decl) bool { return stmtsReadOtherwise(d.Body) })
}

// wantAgain: P7.4 of a tree; it tells what Parse of its print answers.
func wantAgain(t *testing.T, x api.Tree) api.Errno {
	t.Helper()
	printed, err := tree.Print(x)
	if err != api.OK || !tree.Is(x) {
		t.Errorf("%+v is no tree", x)
	}
	got, at, err := parse.Parse(printed)
	switch {
	case len(printed) > api.MaxSource:
		wantFault(t, printed, 0, api.ErrLexLong)
	case treeReadsOtherwise(x):
	case tree.Depth(x) > api.MaxDepth:
		if err != api.ErrParseDeep || !strings.ContainsAny(printed[at:at+1], "([{n-") {
			t.Errorf("%s: %d at %d, Depth %d", printed, err, at, tree.Depth(x))
		}
	default:
		if err != api.OK || at != 0 || !tree.Same(got, x) || !equalBare(got, x) {
			t.Errorf("%s: %+v, %d at %d, want %+v", printed, got, err, at, x)
		}
	}
	return err
}

// P7.4: trees by chance, printed.
func TestPrintsOfTrees(t *testing.T) {
	c := chooser{rand.New(rand.NewSource(75))}
	counts := map[api.Errno]int{}
	for range 3000 {
		counts[wantAgain(t, c.tree())]++
		counts[wantAgain(t, handler(stmt(api.SEmit, "", c.chain(c.Intn(60)))))]++
	}
	if counts[api.OK] < 2000 || counts[api.ErrParseDeep] < 200 {
		t.Errorf("%v", counts)
	}
}

// P7.4: what is told of sources of all sorts, samples and by chance, is a tree, and is read again.
func TestPrintsOfSources(t *testing.T) {
	c := chooser{rand.New(rand.NewSource(76))}
	for _, source := range samples() {
		x, _, _ := parse.Parse(source)
		if wantAgain(t, x) != api.OK {
			t.Errorf("%s isn't read again", source)
		}
	}
	for range 1000 {
		w := newWriter(c)
		w.tree(c.tree())
		if x, _, err := parse.Parse(w.text.String()); err == api.OK {
			wantAgain(t, x)
		}
	}
	for _, source := range []string{let("a" + strings.Repeat(" + a", 37)), let("a" + strings.Repeat(" + a", 500)), let("a" + strings.Repeat(".f", 1500)), in(strings.Repeat("if a { } else ", 30) + "{ break; }"), in(strings.Repeat("if a { } else ", 100) + "{ break; }"), let("((((1)))).f"), let("(((-1)))"), let("-((1))"), in("if a { } else { }")} {
		x, _, err := parse.Parse(source)
		if err != api.OK {
			t.Errorf("%s: %d", source, err)
		}
		wantAgain(t, x)
	}
}

// wantAnswer: P7.4 of any bytes: an answer that is right in itself, and the same each time.
func wantAnswer(t *testing.T, source string) api.Errno {
	t.Helper()
	x, at, err := parse.Parse(source)
	y, place, number := parse.Parse(strings.Clone(source))
	if place != at || number != err || !equal(x, y) {
		t.Errorf("%q: two answers", source)
	}
	tokens, lexAt, lexErr := lex.Tokens(source)
	switch {
	case lexErr != api.OK:
		if at != lexAt || err != lexErr || !equal(x, api.Tree{}) {
			t.Errorf("%q: %d at %d, want %d at %d", source, err, at, lexErr, lexAt)
		}
	case err == api.OK:
		if at != 0 {
			t.Errorf("%q: a place %d without an error", source, at)
		}
		wantAgain(t, x)
	default:
		begins := slices.ContainsFunc(tokens, func(token api.Token) bool { return token.At == at })
		if err < api.ErrParse || err > api.ErrParseName || !begins || !equal(x, api.Tree{}) {
			t.Errorf("%q: %+v, %d at %d", source, x, err, at)
		}
	}
	return err
}

// P7.4: every byte by itself and each two, bytes by chance, sources with bytes changed, taken out or put in.
func TestEveryBytes(t *testing.T) {
	for a := range 256 {
		wantAnswer(t, string([]byte{byte(a)}))
		wantAnswer(t, in("x = "+string([]byte{byte(a)})+";"))
		for b := range 256 {
			if _, _, err := parse.Parse(string([]byte{byte(a), byte(b)})); err == api.OK && !strings.Contains(" \t\r\n#", string([]byte{byte(a)})) {
				t.Errorf("%q is read", []byte{byte(a), byte(b)})
			}
		}
	}
	r := rand.New(rand.NewSource(77))
	bytes := []byte(" \n#\"{}()[],;:.=!<>+-*/%&aPf019_\xc3\x00")
	counts := map[api.Errno]int{}
	all := samples()
	for range 20000 {
		source := []byte(all[r.Intn(len(all))])
		for range 1 + r.Intn(3) {
			at := r.Intn(len(source))
			b := bytes[r.Intn(len(bytes))]
			switch r.Intn(3) {
			case 0:
				source[at] = b
			case 1:
				source = slices.Delete(source, at, at+1)
			default:
				source = slices.Insert(source, at, b)
			}
		}
		counts[wantAnswer(t, string(source))]++
	}
	for range 3000 {
		source := make([]byte, r.Intn(60))
		for i := range source {
			source[i] = bytes[r.Intn(len(bytes))]
		}
		wantAnswer(t, string(source))
	}
	for _, err := range []api.Errno{api.OK, api.ErrParse, api.ErrLexByte, api.ErrLexOpen} {
		if counts[err] < 100 {
			t.Errorf("%v", counts)
		}
	}
}

// P7.4: names, texts and numbers that are too long, too great, rows and brackets that are too many, by chance, in the place of a name or a number.
func TestTokensOfAllSizes(t *testing.T) {
	r := rand.New(rand.NewSource(78))
	parts := []string{"(a)", "f(1, 2)", "- 1", strings.Repeat("n", 21), strings.Repeat("N", 21), `"` + strings.Repeat("x", 65) + `"`, "9223372036854775808", nested(20, "( ", "a", " )"), nested(30, "( ", "a", " )"), nested(15, "not ", "a", ""), nested(20, "- ", "a", ""), nested(30, "f( ", "1", " )"), "f(" + commas(12, "a") + ")", "f(" + commas(13, "a") + ")", "P{" + commas(13, "x: 1") + "}", "a, a, a, a, a, a, a", "x: a, x: a, x: a, x: a, x: a, x"}
	counts := map[api.Errno]int{}
	all := samples()
	for range 20000 {
		list := strings.Fields(all[r.Intn(len(all))])
		for range 8 {
			if at := r.Intn(len(list)); slices.Contains([]string{"a", "b", "c", "1", "x", "true"}, list[at]) {
				list[at] = parts[r.Intn(len(parts))]
				list = strings.Fields(strings.Join(list, " "))
			}
		}
		counts[wantAnswer(t, strings.Join(list, " "))]++
	}
	for err := api.ErrParse; err <= api.ErrParseName; err++ {
		if counts[err] < 20 || counts[api.OK] < 1000 {
			t.Errorf("%v", counts)
		}
	}
	for _, s := range []string{"(", "[", "{", "not ", "-", "if a {", "else if a {", "f(", "P{x:", "on e() {", "a.", "a+", "1,", `""`, "#\n", "x:"} {
		for _, ahead := range []string{"", begin, begin + "x = ", begin + "while ", begin + "if a { } "} {
			wantAnswer(t, ahead+strings.Repeat(s, (api.MaxSource-len(ahead))/len(s)))
		}
	}
}

// span: where a list or a text lies, its spare room too.
type span struct{ from, to uintptr }

func spans(v reflect.Value) []span {
	var list []span
	switch v.Kind() {
	case reflect.String:
		if s := v.String(); s != "" {
			from := uintptr(unsafe.Pointer(unsafe.StringData(s)))
			list = append(list, span{from, from + uintptr(len(s))})
		}
	case reflect.Slice:
		if v.Cap() > 0 {
			list = append(list, span{v.Pointer(), v.Pointer() + uintptr(v.Cap())*v.Type().Elem().Size()})
		}
		for i := range v.Len() {
			list = append(list, spans(v.Index(i))...)
		}
	case reflect.Struct:
		for i := range v.NumField() {
			list = append(list, spans(v.Field(i))...)
		}
	}
	return list
}

// manifold: a source with all samples that fit, so that an answer has lists and texts of all sorts.
func manifold() string {
	var all strings.Builder
	all.WriteString("record P { x : int , y : text } map m : int -> P ; fn f ( a : int , b : P ) -> bool { return ; } on e ( a : text ) { ")
	for _, s := range samples() {
		if body, ok := strings.CutPrefix(s, "on e ( ) { "); ok && !strings.Contains(s, "record") {
			all.WriteString(strings.TrimSuffix(body, "}"))
		}
	}
	return all.String() + "}"
}

// What is answered shares no memory with the source, or with another answer; no two lists of it share any.
func TestAnswersShareNothing(t *testing.T) {
	source := manifold()
	x, _, err := parse.Parse(source)
	y, _, _ := parse.Parse(source)
	one, other := spans(reflect.ValueOf(x)), spans(reflect.ValueOf(y))
	if err != api.OK || len(one) < 200 || len(one) != len(other) {
		t.Fatalf("%d: %d and %d lists and texts", err, len(one), len(other))
	}
	for i, a := range one {
		for _, b := range slices.Concat(one[:i], other, spans(reflect.ValueOf(source))) {
			if a.from < b.to && b.from < a.to {
				t.Fatal("memory that is shared")
			}
		}
	}
}

// An answer hangs on its source alone: not on what was asked before, or is asked at the same time.
func TestAnswersAtOnce(t *testing.T) {
	sources := append(samples(), manifold(), let("((("), let(strings.Repeat("(", 50)), "on e(", let("99999999999999999999"))
	type answer struct {
		t   api.Tree
		at  int
		err api.Errno
	}
	var want []answer
	for _, s := range sources {
		x, at, err := parse.Parse(s)
		want = append(want, answer{x, at, err})
	}
	var group sync.WaitGroup
	for worker := range 8 {
		group.Go(func() {
			for i := range sources {
				i = (i*7 + worker) % len(sources)
				x, at, err := parse.Parse(sources[i])
				if at != want[i].at || err != want[i].err || !equal(x, want[i].t) {
					t.Errorf("%s: another answer", sources[i])
				}
			}
		})
	}
	group.Wait()
}
