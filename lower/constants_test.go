package lower_test

import (
	"fmt"
	"math"
	"math/rand"
	"slices"
	"strconv"
	"strings"
	"testing"

	"windlass/api"
	"windlass/lower"
)

// handlers: of the trees below.
const handlers = 16

// holder: which of the handlers has expression number at of count.
func holder(at, count int) int { return at * handlers / count }

// shared: a tree whose handlers have these expressions, each some of them: if the argument is one of its own, a handler keeps it.
func shared(key string, list []api.Expr) api.Tree {
	x := api.Tree{Maps: []api.Decl{{Name: "m", Key: key, Value: "int"}}}
	for i := range handlers {
		x.Events = append(x.Events, api.Decl{Name: fmt.Sprint("e", i), At: i, Params: []api.Param{{Name: "a", Type: key}}})
	}
	a := api.Expr{Kind: api.EVar, Name: "a"}
	for at, e := range list {
		d := &x.Events[holder(at, len(list))]
		same := api.Expr{Kind: api.EBinary, Op: api.OEq, Args: []api.Expr{a, e}}
		keep := api.Stmt{Kind: api.SPut, Name: "m", Args: []api.Expr{a, {Kind: api.EInt, Int: 1}}}
		d.Body = append(d.Body, api.Stmt{Kind: api.SIf, Args: []api.Expr{same}, Body: []api.Stmt{keep, {Kind: api.SReturn}}})
	}
	return x
}

func ints(list []int64) []api.Expr {
	var all []api.Expr
	for _, n := range list {
		all = append(all, api.Expr{Kind: api.EInt, Int: n})
	}
	return all
}

func texts(list []string) []api.Expr {
	var all []api.Expr
	for _, s := range list {
		all = append(all, api.Expr{Kind: api.EText, Text: s})
	}
	return all
}

// crowded: a tree of so many integers, near 0 and not so near.
func crowded(count int) api.Tree {
	var list []int64
	for i := range int64(count) {
		list = append(list, (i-int64(count)/2)*7)
	}
	return shared("int", ints(list))
}

// lettered: a tree of so many texts.
func lettered(count int) api.Tree {
	var list []string
	for i := range count {
		list = append(list, "t"+strconv.Itoa(i))
	}
	return shared("text", texts(list))
}

// wantKept: that each handler keeps its argument, if it is one of its own; of those that are constants some are tried, of the others all or many.
func wantKept(t *testing.T, x api.Tree, values []api.Value) {
	t.Helper()
	c := coded(t, x)
	if len(c.Ints) > 1000 || len(c.Texts) > 1000 {
		t.Fatalf("%d integers, %d texts", len(c.Ints), len(c.Texts))
	}
	made := 0
	for i, v := range values {
		if isConstant(c, v) {
			if i%40 > 0 {
				continue
			}
		} else if made++; made > 100 {
			continue
		}
		o := runCode(t, c, x, blank(c.Program), api.Event{Name: fmt.Sprint("e", holder(i, len(values))), Args: []api.Value{v}}, nil, 0)
		if o.End != api.Done || len(o.State.Maps[0]) != 1 || shown(o.State.Maps[0][0].Key) != shown(v) {
			t.Errorf("P13.1: %s: %s", shown(v), told(c.Program, o))
		}
	}
	if isMade := made > 0; isMade != (len(values) > 1000) {
		t.Errorf("%d of %d aren't constants", made, len(values))
	}
}

func isConstant(c api.Code, v api.Value) bool {
	if v.Kind == api.Int {
		return slices.Contains(c.Ints, v.Int)
	}
	return slices.Contains(c.Texts, v.Text)
}

// P13.1: as many integers as there may be constants, and more: what no constant is, is reckoned.
func TestManyIntegers(t *testing.T) {
	r := rand.New(rand.NewSource(136))
	// These stand behind the others, where there is no room for them.
	last := []int64{math.MinInt64, math.MinInt64 + 1, math.MaxInt64, -65537, -65536, -65535, -257, -256, -255, -1, 0, 255, 256, 257, 65535, 65536, 1 << 32, -1 << 32, 1<<40 + 1}
	for range 5 {
		last = append(last, int64(r.Uint64()))
	}
	for _, count := range []int{999, 1000, 1001, 1100, 1400} {
		list := []int64{1}
		for n := int64(-count); len(list) < count-len(last); n++ {
			if n != 0 {
				list = append(list, n*61)
			}
		}
		list = append(list, last...)
		var values []api.Value
		for _, n := range list {
			values = append(values, numbered(n))
		}
		x := shared("int", ints(list))
		wantKept(t, x, values)
		if c := coded(t, x); len(c.Ints) != min(count, 1000) {
			t.Errorf("%d constants of %d integers", len(c.Ints), count)
		}
	}
}

// P13.1: likewise texts.
func TestManyTexts(t *testing.T) {
	for _, count := range []int{999, 1000, 1001, 1200, 1400} {
		list := []string{"", "a", "\x00", "\xff", strings.Repeat("l", 64), strings.Repeat("k", 30) + "\xff"}
		for i := len(list); i < count; i++ {
			list = append(list, fmt.Sprintf("%c%d", 'p'+i%5, i))
		}
		var values []api.Value
		for _, s := range list {
			values = append(values, texted(s))
		}
		slices.Reverse(list)
		slices.Reverse(values)
		wantKept(t, shared("text", texts(list)), values)
	}
}

// P13.1: a text of 64 letters that no constant is, wherever it stands: nothing traps by its being made.
func TestLongTexts(t *testing.T) {
	x := lettered(1300)
	long := strings.Repeat("xyz", 21) + "w"
	last := &x.Events[15]
	last.Params = append(last.Params, api.Param{Name: "c", Type: "text"})
	last.Body = append(last.Body, api.Stmt{Kind: api.SSet, Name: "c", Args: texts([]string{long})}, api.Stmt{Kind: api.SEmit, Args: []api.Expr{{Kind: api.EVar, Name: "c"}}}, api.Stmt{Kind: api.SEmit, Args: texts([]string{long})})
	c := coded(t, x)
	if slices.Contains(c.Texts, long) {
		t.Fatal("the test's own text is a constant")
	}
	o := runCode(t, c, x, blank(c.Program), api.Event{Name: "e15", Args: []api.Value{texted("none"), texted("")}}, nil, 0)
	if !slices.Equal(o.Emits, []string{long, long}) {
		t.Errorf("P13.1: %s", told(c.Program, o))
	}
}

// P13.1: a source may have more integers than there may be constants.
func TestManyIntegersOfASource(t *testing.T) {
	for _, names := range []string{"abc", "ab"} {
		var source strings.Builder
		source.WriteString("map m:int->int;")
		each, n := 1026/len(names), 0
		for _, name := range strings.Split(names, "") {
			source.WriteString("on " + name + "(){m[0]=0")
			for range each {
				n++
				source.WriteString("+" + strconv.Itoa(n))
			}
			source.WriteString(";}")
		}
		x := read(t, source.String())
		c := coded(t, x)
		for i, name := range strings.Split(names, "") {
			o := runCode(t, c, x, blank(c.Program), api.Event{Name: name}, nil, 0)
			if sum := int64(each*each*i + each*(each+1)/2); o.State.Maps[0][0].Value.Int != sum {
				t.Errorf("P13.1: %s: %s, want %d", name, told(c.Program, o), sum)
			}
		}
	}
}

// P13.1: integers of 64 bits, as many as there may be constants and a few more, in functions within the bounds.
func TestLongIntegers(t *testing.T) {
	r := rand.New(rand.NewSource(138))
	for _, count := range []int{999, 1000, 1001, 1002} {
		x := read(t, "map m: int -> int;")
		var sums []int64
		for at := range 15 {
			d, sum := api.Decl{Name: fmt.Sprint("e", at)}, int64(0)
			for i := at; i < count; i += 15 {
				n := int64(r.Uint64())
				sum += n
				total := api.Expr{Kind: api.EBinary, Op: api.OWAdd, Args: []api.Expr{{Kind: api.EGet, Name: "m", Args: ints([]int64{0})}, {Kind: api.EInt, Int: n}}}
				if i == 0 {
					total.Args[1].Int, sum = 0, 0
				}
				if i%2 == 0 && len(d.Body) > 0 {
					last := &d.Body[len(d.Body)-1].Args[1]
					*last = api.Expr{Kind: api.EBinary, Op: api.OWAdd, Args: []api.Expr{total.Args[1], *last}}
					continue
				}
				d.Body = append(d.Body, api.Stmt{Kind: api.SPut, Name: "m", Args: append(ints([]int64{0}), total)})
			}
			x.Events, sums = append(x.Events, d), append(sums, sum)
		}
		_, c := wantWithin(t, x)
		for at, sum := range sums {
			if o := runCode(t, c, x, blank(c.Program), api.Event{Name: fmt.Sprint("e", at)}, nil, 0); o.State.Maps[0][0].Value.Int != sum {
				t.Errorf("P13.1: %d integers: %s, want %d", count, told(c.Program, o), sum)
			}
		}
		x.Events = append(x.Events, ofLets(65).Events[1])
		wantRefused(t, "long integers and registers", x, 77, api.ErrFlowForm)
	}
}

// P13.1: in a tree within the bounds, with as many integers as they may have, too: no function is too long by them, and there are registers for them.
func TestManyIntegersAtTheBounds(t *testing.T) {
	x := read(t, fatHead)
	n := int64(-4000)
	next := func() api.Expr {
		n++
		return api.Expr{Kind: api.EInt, Int: n}
	}
	after := func() api.Stmt {
		s := api.Stmt{Kind: api.SAfter, Name: "far_off"}
		for range 13 {
			s.Args = append(s.Args, next())
		}
		return s
	}
	for i := range 15 {
		d := api.Decl{Name: fmt.Sprint("e", i)}
		for range 21 {
			d.Body = append(d.Body, after())
		}
		x.Events = append(x.Events, d)
		d = api.Decl{Name: fmt.Sprint("f", i)}
		for range 21 {
			d.Body = append(d.Body, after())
		}
		if i < 14 {
			x.Funcs = append(x.Funcs, d)
		}
	}
	_, c := wantWithin(t, x)
	if len(c.Ints) != 1000 || n < 3000 {
		t.Errorf("%d constants, the last integer %d", len(c.Ints), n)
	}
	// A function that needs too much, however integers are made, is told, not one ahead of it that would by some other way.
	more := x
	more.Events = append(slices.Clone(x.Events[:15]), ofLets(65).Events[1])
	wantRefused(t, "many integers and registers", more, 77, api.ErrFlowForm)
	// The deepest loops and the widest statement, of integers that are reckoned.
	var source strings.Builder
	for i := range 12 {
		fmt.Fprintf(&source, "each v%d in m { v%d = v%d + 1; ", i, i, i)
	}
	for _, statement := range fat() {
		deep := read(t, fatHead+"on deep() { let u0 = 1; let u1 = 2; let u2 = 3; let u3 = 4; let u4 = 5; let u5 = 6; let u6 = 7; "+source.String()+statement+strings.Repeat(" }", 12)+" }")
		d := deep.Events[1]
		for _, from := range []int64{n, 1 << 40, -1 << 62} {
			renumber(d.Body, &from)
			whole := x
			whole.Events = append(slices.Clone(x.Events[:15]), d)
			_, c := wantWithin(t, whole)
			s := blank(c.Program)
			s.Maps[0] = []api.Entry{{Key: numbered(1), Value: numbered(5)}}
			runCode(t, c, whole, s, api.Event{Name: "deep"}, nil, 0)
		}
	}
}

// renumber gives all integers of statements numbers that no others have.
func renumber(list []api.Stmt, n *int64) {
	var exprs func(list []api.Expr)
	exprs = func(list []api.Expr) {
		for i := range list {
			if list[i].Kind == api.EInt {
				*n++
				list[i].Int = *n
			}
			exprs(list[i].Args)
		}
	}
	for i := range list {
		exprs(list[i].Args)
		renumber(list[i].Body, n)
	}
}

// A tree with more ports than there may be texts can't be code: it is refused at the declaration where there is no more room.
func TestManyPorts(t *testing.T) {
	asks := func(from, count, at int) api.Decl {
		d := api.Decl{Name: fmt.Sprint("e", at), At: at}
		for i := range count {
			d.Body = append(d.Body, api.Stmt{Kind: api.SDo, Args: []api.Expr{{Kind: api.EAsk, Name: fmt.Sprint("p", from+i), Args: []api.Expr{{Kind: api.EText}}}}})
		}
		return d
	}
	x := api.Tree{Events: []api.Decl{asks(0, 300, 11), asks(300, 300, 12), asks(600, 300, 13), asks(0, 30, 14), asks(900, 99, 15)}}
	if c := coded(t, x); len(c.Texts) != 1000 {
		t.Errorf("%d texts", len(c.Texts))
	}
	x.Events[4] = asks(900, 300, 15)
	u, at, err := lower.Lower(x)
	if err != api.ErrFlowForm || at != 13 && at != 15 || shown(u) != shown(api.Unit{}) {
		t.Errorf("%d at %d", err, at)
	}
	// Few enough of them, and more texts than there is room for.
	few := lettered(900)
	few.Events[15].Body = append(few.Events[15].Body, asks(0, 300, 0).Body...)
	coded(t, few)
}
