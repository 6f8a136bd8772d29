package tree_test

import (
	"iter"
	"math/rand"
	"reflect"
	"slices"
	"strconv"
	"strings"
	"testing"
	"unsafe"

	"windlass/api"
	"windlass/tree"
)

// strangers: trees that may not be.
func strangers() []api.Tree {
	x := variable("x")
	wrong := api.Stmt{Kind: 99, Name: "if", Label: "L", Var: "1", Args: []api.Expr{{Kind: -1, Op: 77, Int: 5, Text: strings.Repeat("z", 99), Name: "?", Names: []string{"", "A"}, Args: []api.Expr{x, {}}}}, Body: []api.Stmt{{}}, Else: []api.Stmt{{}, {}}}
	decl := api.Decl{Name: "?", Params: make([]api.Param, 13), Key: "k", Value: "v", Result: "r", Body: []api.Stmt{wrong, {}}}
	return []api.Tree{
		handler(wrong), declared("record", decl), declared("map", decl), declared("fn", decl), declared("on", decl), {Maps: slices.Repeat([]api.Decl{decl}, 17)},
		within(api.Expr{}), within(named(api.ECall, "f", make([]api.Expr, 50)...)), within(api.Expr{Kind: api.EInt, Args: []api.Expr{x, unary(api.ONeg, x)}}),
		handler(api.Stmt{Kind: api.SBreak, Args: []api.Expr{x}, Body: []api.Stmt{{}}, Else: []api.Stmt{{}}}),
	}
}

// changes: a tree with one number, text or list changed, and the name of the field.
func changes(x api.Tree) iter.Seq2[string, api.Tree] {
	return func(yield func(string, api.Tree) bool) {
		for n := 0; ; n++ {
			changed := spread(x, keep)
			left := n
			field := change(reflect.ValueOf(&changed).Elem(), "", &left)
			if field == "" || !yield(field, changed) {
				return
			}
		}
	}
}

// change changes what is number *left, and tells its name; none, if there are fewer.
func change(v reflect.Value, name string, left *int) string {
	mine := v.Kind() != reflect.Struct && *left == 0
	if v.Kind() != reflect.Struct {
		*left--
	}
	switch {
	case v.Kind() == reflect.Struct:
		for i := range v.NumField() {
			if field := change(v.Field(i), v.Type().Field(i).Name, left); field != "" {
				return field
			}
		}
	case v.Kind() == reflect.String && mine:
		v.SetString(v.String() + "x")
	case v.Kind() != reflect.Slice && mine:
		v.SetInt(v.Int() + 1)
	case v.Kind() == reflect.Slice && mine:
		v.Set(reflect.Append(v, reflect.Zero(v.Type().Elem())))
	case v.Kind() == reflect.Slice && *left == 0 && v.Len() > 0:
		v.SetLen(v.Len() - 1)
		return name
	case v.Kind() == reflect.Slice:
		if v.Len() > 0 {
			*left--
		}
		for i := range v.Len() {
			if field := change(v.Index(i), name, left); field != "" {
				return field
			}
		}
	}
	if mine {
		return name
	}
	return ""
}

func wantSame(t *testing.T, a, b api.Tree, want bool) {
	t.Helper()
	if tree.Same(a, b) != want || tree.Same(b, a) != want {
		t.Errorf("%+v and %+v: Same %t", a, b, !want)
	}
}

// P6.3: trees that differ in one field are the same, if it is At, and only then.
func TestSameOfOneChange(t *testing.T) {
	samples := strangers()
	for _, s := range sampleStmts() {
		samples = append(samples, handler(s))
	}
	for _, e := range sampleExprs() {
		samples = append(samples, within(e))
	}
	for _, sort := range sorts {
		samples = append(samples, declared(sort, sampleDecl(sort), sampleDecl(sort)))
	}
	fields := map[string]int{}
	for _, x := range samples {
		wantSame(t, x, x, true)
		for field, changed := range changes(x) {
			fields[field]++
			wantSame(t, x, changed, field == "At")
			if equal(tree.Bare(x), tree.Bare(changed)) != (field == "At") {
				t.Errorf("%+v and %+v: Bare", x, changed)
			}
		}
	}
	for _, field := range strings.Fields("Records Maps Funcs Events Name Params Key Value Result Body At Type Kind Label Var Args Else Op Int Text Names") {
		if fields[field] == 0 {
			t.Errorf("%s was never changed", field)
		}
	}
}

// P6.3: trees that have the same parts at other places aren't the same.
func TestSameOfPlaces(t *testing.T) {
	x, y, leave := variable("x"), variable("y"), stmt(api.SReturn, "")
	decl := api.Decl{Name: "f"}
	lists := [][]api.Tree{
		{declared("record", decl), declared("map", decl), declared("fn", decl), declared("on", decl), {}},
		{within(named(api.ECall, "f", x, y)), within(named(api.ECall, "f", y, x)), within(named(api.ECall, "f", named(api.ECall, "f", x, y))), within(named(api.ECall, "f", named(api.ECall, "f", x), y)), within(named(api.ECall, "f", x, named(api.ECall, "f", y)))},
		{handler(choice(x, []api.Stmt{leave}, nil)), handler(choice(x, nil, []api.Stmt{leave})), handler(choice(x, nil, nil), leave), handler(leave, choice(x, nil, nil))},
		{handler(loop("", x, loop("", x), leave)), handler(loop("", x, loop("", x, leave))), handler(loop("", x, loop("", x)), leave), handler(loop("", x), loop("", x, leave)), handler(loop("", x, leave, loop("", x)))},
		{declared("fn", decl, api.Decl{Name: "f", Body: []api.Stmt{leave}}), declared("fn", api.Decl{Name: "f", Body: []api.Stmt{leave}}, decl)},
		{handler(stmt(api.SLet, "x", x)), handler(api.Stmt{Kind: api.SLet, Name: "x", Body: []api.Stmt{{}}}), handler(api.Stmt{Kind: api.SLet, Name: "x", Else: []api.Stmt{{}}})},
		{{Funcs: []api.Decl{decl}}, {Funcs: []api.Decl{decl}, Events: []api.Decl{decl}}, {Events: []api.Decl{decl, decl}}, {Funcs: []api.Decl{decl, decl}}},
	}
	for _, list := range append(lists, strangers()) {
		for i, a := range list {
			for j, b := range list {
				wantSame(t, a, b, i == j)
			}
		}
	}
}

// P6.3: nil and empty are one; other At are none of its matter.
func TestSameOfNilAndEmpty(t *testing.T) {
	wantSame(t, api.Tree{}, api.Tree{Records: []api.Decl{}, Maps: []api.Decl{}, Funcs: []api.Decl{}, Events: []api.Decl{}}, true)
	wantSame(t, within(variable("x")), handler(api.Stmt{Kind: api.SDo, Args: []api.Expr{{Kind: api.EVar, Name: "x", Names: []string{}, Args: []api.Expr{}}}, Body: []api.Stmt{}, Else: []api.Stmt{}}), true)
	wantSame(t, declared("map", api.Decl{Params: []api.Param{}, Body: []api.Stmt{}}), declared("map", api.Decl{}), true)
	for _, x := range append(strangers(), sampleTree()) {
		wantSame(t, x, spread(x, keep), true)
		wantSame(t, x, spread(x, zero), true)
		wantSame(t, x, spread(x, func(at int) int { return -1 << 62 }), true)
	}
}

// P6.3: Same by chance, of trees that are often alike.
func TestSameByChance(t *testing.T) {
	c := chooser{rand.New(rand.NewSource(66))}
	var trees []api.Tree
	for range 300 {
		trees = append(trees, within(c.expr(1)), handler(c.stmts(1)...))
	}
	alike := 0
	for i, a := range trees {
		for _, b := range trees[:i] {
			want := equalBare(a, b)
			wantSame(t, a, b, want)
			if want {
				alike++
			}
		}
	}
	if alike < 100 {
		t.Errorf("only %d are alike", alike)
	}
}

// P6.3: Bare is the tree but for At.
func TestBare(t *testing.T) {
	c := chooser{rand.New(rand.NewSource(63))}
	trees := append(strangers(), sampleTree(), api.Tree{})
	for range 200 {
		at := c.Intn(9)
		trees = append(trees, spread(c.tree(), func(int) int { return at - 4 }))
	}
	for _, x := range trees {
		x = spread(x, func(at int) int { return at + 7 })
		bare := tree.Bare(x)
		if !equal(bare, spread(x, zero)) || !tree.Same(x, bare) || !equal(tree.Bare(bare), bare) {
			t.Errorf("%+v: Bare %+v", x, bare)
		}
	}
}

// sizeOf: P6.3, of whatever has Bodies, Args and Elses.
func sizeOf(v reflect.Value) int {
	size := 0
	switch v.Kind() {
	case reflect.Slice:
		for i := range v.Len() {
			size += sizeOf(v.Index(i))
		}
	case reflect.Struct:
		if kind := v.Type(); kind == reflect.TypeFor[api.Stmt]() || kind == reflect.TypeFor[api.Expr]() {
			size++
		}
		for i := range v.NumField() {
			size += sizeOf(v.Field(i))
		}
	}
	return size
}

// P6.3: Size of trees that may be, and of those that may not.
func TestSize(t *testing.T) {
	c := chooser{rand.New(rand.NewSource(36))}
	trees := append(strangers(), sampleTree(), api.Tree{})
	for range 1000 {
		trees = append(trees, c.tree())
	}
	for _, x := range trees {
		if got, want := tree.Size(x), sizeOf(reflect.ValueOf(x)); got != want {
			t.Errorf("%+v: Size %d, want %d", x, got, want)
		}
	}
	empty := stmt(api.SReturn, "")
	for _, row := range []struct {
		x    api.Tree
		want int
	}{
		{declared("record", api.Decl{Body: []api.Stmt{empty}}), 1}, {declared("map", api.Decl{Body: []api.Stmt{empty, empty}}), 2},
		{api.Tree{Records: []api.Decl{{Body: []api.Stmt{empty}}}, Maps: []api.Decl{{Body: []api.Stmt{empty}}}, Funcs: []api.Decl{{Body: []api.Stmt{empty}}}, Events: []api.Decl{{Body: []api.Stmt{empty}}}}, 4},
		{within(api.Expr{}), 2}, {handler(api.Stmt{}), 1}, {handler(api.Stmt{Body: []api.Stmt{{}}, Else: []api.Stmt{{}}, Args: []api.Expr{{}}}), 4},
		{within(api.Expr{Kind: api.EInt, Args: []api.Expr{{Args: []api.Expr{{}}}}}), 4}, {declared("fn", make([]api.Decl, 30)...), 0},
	} {
		if got := tree.Size(row.x); got != row.want {
			t.Errorf("%+v: Size %d, want %d", row.x, got, row.want)
		}
	}
	for _, x := range strangers() {
		wantTree(t, x, false)
	}
}

// span: where a list or a text lies, its spare room too.
type span struct {
	from, to uintptr
	text     bool
}

func spans(v reflect.Value) []span {
	var list []span
	switch v.Kind() {
	case reflect.String:
		if s := v.String(); s != "" {
			from := uintptr(unsafe.Pointer(unsafe.StringData(s)))
			list = append(list, span{from, from + uintptr(len(s)), true})
		}
	case reflect.Slice:
		if v.Cap() > 0 {
			list = append(list, span{v.Pointer(), v.Pointer() + uintptr(v.Cap())*v.Type().Elem().Size(), false})
		}
		for i := range v.Len() {
			list = append(list, spans(v.Index(i))...)
		}
	case reflect.Struct:
		for i := range v.NumField() {
			list = append(list, spans(v.Field(i))...)
		}
	}
	return list
}

func overlap(a, b span) bool { return a.from < b.to && b.from < a.to }

// dump: all that hangs on a value, the spare room of its lists too.
func dump(v reflect.Value, out *strings.Builder) {
	switch v.Kind() {
	case reflect.String:
		out.WriteString(strconv.Quote(v.String()))
	case reflect.Slice:
		out.WriteString("[" + strconv.Itoa(v.Len()) + ":")
		for i := range v.Cap() {
			dump(v.Slice(0, v.Cap()).Index(i), out)
		}
		out.WriteString("]")
	case reflect.Struct:
		for i := range v.NumField() {
			dump(v.Field(i), out)
		}
	default:
		out.WriteString(strconv.FormatInt(v.Int(), 10) + ",")
	}
}

func dumped(x any) string {
	var out strings.Builder
	dump(reflect.ValueOf(x), &out)
	return out.String()
}

// P6.3: what is answered shares no memory with the argument, with another answer; no two lists of it share any.
func TestAnswersShareNothing(t *testing.T) {
	for _, x := range append(strangers(), sampleTree()) {
		x = spread(x, keep)
		one, other := spans(reflect.ValueOf(tree.Bare(x))), spans(reflect.ValueOf(tree.Bare(x)))
		if len(one) == 0 || len(one) != len(other) {
			t.Fatalf("%d and %d lists and texts", len(one), len(other))
		}
		for i, a := range one {
			for _, b := range slices.Concat(one[:i], other, spans(reflect.ValueOf(x))) {
				if overlap(a, b) {
					t.Fatalf("%+v: memory that is shared", x)
				}
			}
		}
	}
	empty := tree.Bare(api.Tree{Records: make([]api.Decl, 0, 3), Funcs: make([]api.Decl, 0, 3)})
	if cap(empty.Records)+cap(empty.Maps)+cap(empty.Funcs)+cap(empty.Events) != 0 {
		t.Error("an empty list's room was kept")
	}
	for _, e := range sampleExprs() {
		s, _ := tree.Expr(e)
		again, _ := tree.Expr(e)
		for _, a := range spans(reflect.ValueOf(s)) {
			for _, b := range append(spans(reflect.ValueOf(e)), spans(reflect.ValueOf(again))...) {
				if overlap(a, b) {
					t.Errorf("%s: memory that is shared", s)
				}
			}
		}
	}
}

// P6.1 to P6.3: no argument is changed, nor the room behind its lists; what was answered isn't by what is done with another answer.
func TestArgumentsAreLeft(t *testing.T) {
	for _, x := range append(strangers(), sampleTree()) {
		x = spread(x, func(at int) int { return at + 5 })
		y := spread(x, keep)
		before, other := dumped(x), dumped(y)
		first := tree.Bare(x)
		want := dumped(first)
		tree.Is(x)
		tree.Print(x)
		tree.Depth(x)
		tree.Size(x)
		tree.Same(x, y)
		if dumped(x) != before || dumped(y) != other {
			t.Errorf("%+v was changed", x)
		}
		scribble(reflect.ValueOf(tree.Bare(x)))
		if dumped(x) != before || dumped(first) != want || dumped(tree.Bare(x)) != want {
			t.Errorf("%+v was changed by another answer's change", x)
		}
		scribble(reflect.ValueOf(x))
		if dumped(first) != want {
			t.Error("an answer was changed by its argument's change")
		}
	}
	for _, e := range sampleExprs() {
		before := dumped(e)
		tree.Expr(e)
		if dumped(e) != before {
			t.Errorf("%+v was changed", e)
		}
	}
}

// scribble writes over all lists that hang on a value, and the room behind them.
func scribble(v reflect.Value) {
	switch v.Kind() {
	case reflect.Slice:
		for i := range v.Len() {
			scribble(v.Index(i))
		}
		for i := range v.Cap() {
			element := v.Slice(0, v.Cap()).Index(i)
			if element.Kind() == reflect.String {
				element.SetString("scribbled")
			} else {
				element.SetZero()
				element.Field(0).Set(reflect.ValueOf(map[reflect.Kind]any{reflect.Int: 77, reflect.String: "scribbled"}[element.Field(0).Kind()]))
			}
		}
	case reflect.Struct:
		for i := range v.NumField() {
			scribble(v.Field(i))
		}
	}
}

// P6.1 to P6.3: as deep as DOC.md's rules go.
func TestDeepTrees(t *testing.T) {
	const deep = 1<<16 - 8
	e, s := variable("x"), stmt(api.SReturn, "")
	for range deep {
		e, s = unary(api.ONot, e), choice(truth(1), nil, []api.Stmt{s})
	}
	for _, row := range []struct {
		x           api.Tree
		depth, size int
	}{{within(e), 2 * deep, 2 + deep}, {handler(s), 1 + deep, 1 + 2*deep}} {
		printed, err := tree.Print(row.x)
		if err != api.OK || !tree.Is(row.x) || len(printed) < 4*deep || tree.Depth(row.x) != row.depth || tree.Size(row.x) != row.size {
			t.Errorf("%d, Depth %d, want %d, Size %d, want %d", err, tree.Depth(row.x), row.depth, tree.Size(row.x), row.size)
		}
		if bare := tree.Bare(row.x); !tree.Same(bare, row.x) || tree.Same(bare, api.Tree{}) || tree.Size(bare) != row.size {
			t.Error("Bare, Same")
		}
	}
	lowest := &e
	for len(lowest.Args) > 0 {
		lowest = &lowest.Args[0]
	}
	lowest.Name = "X"
	if _, err := tree.Expr(e); err != api.ErrTreeForm || tree.Is(within(e)) {
		t.Errorf("a fault far within: %d", err)
	}
}
