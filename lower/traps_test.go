package lower_test

import (
	"fmt"
	"math"
	"strconv"
	"strings"
	"testing"

	"windlass/api"
)

// edges: where numbers of 64 bits begin and end to be too great, by sums and by products.
var edges = []int64{math.MinInt64, math.MinInt64 + 1, -1 << 62, -1 << 32, -3037000500, -3037000499, -2, -1, 0, 1, 2, 3037000499, 3037000500, 1 << 32, 1 << 62, math.MaxInt64 - 1, math.MaxInt64}

// P13.2, P9.1: operators of numbers, at the edges: TrapOver, TrapZero, or what is exact, as the model has it; the rows are written out.
func TestNumbers(t *testing.T) {
	var handlers strings.Builder
	signs := strings.Fields("+ - * +% -% *% / %")
	for k, sign := range signs {
		fmt.Fprintf(&handlers, "on e%d(a: int, c: int) { m[0] = a %s c; } ", k, sign)
	}
	x := read(t, "map m: int -> int; "+handlers.String()+"on neg(a: int, c: int) { m[0] = - a; }")
	c := coded(t, x)
	traps := map[int]int{}
	for _, d := range x.Events {
		for _, a := range edges {
			for _, b := range edges {
				o := runCode(t, c, x, blank(c.Program), api.Event{Name: d.Name, Args: []api.Value{numbered(a), numbered(b)}}, nil, 0)
				traps[o.Trap]++
			}
		}
	}
	if traps[api.TrapOver] < 100 || traps[api.TrapZero] != 2*len(edges) || traps[api.TrapNone] < 500 {
		t.Errorf("P9.1: %v", traps)
	}
	wantRows(t, "P9.1", []row{
		{"m[0] = 9223372036854775806 + 1;", "done 1 m[0]=9223372036854775807", nil}, {"m[0] = 9223372036854775807 + 1;", "trap Over 1", nil},
		{"m[0] = -9223372036854775807 - 1;", "done 1 m[0]=-9223372036854775808", nil}, {"m[0] = -9223372036854775808 - 1;", "trap Over 1", nil},
		{"m[0] = 3037000500 * 3037000499;", "done 1 m[0]=9223372033963249500", nil}, {"m[0] = 3037000500 * 3037000500;", "trap Over 1", nil},
		{"m[0] = -9223372036854775808 / -1;", "trap Over 1", nil}, {"m[0] = -9223372036854775808 / 1;", "done 1 m[0]=-9223372036854775808", nil},
		{"m[0] = -9223372036854775808 % -1;", "done 1 m[0]=0", nil}, {"m[0] = - (-9223372036854775808);", "trap Over 1", nil}, {"m[0] = - (9223372036854775807);", "done 1 m[0]=-9223372036854775807", nil},
		{"m[0] = 1 / 0;", "trap Zero 1", nil}, {"m[0] = 1 % 0;", "trap Zero 1", nil}, {"m[0] = 0 / 1;", "done 1 m[0]=0", nil},
	})
}

// P13.2, P9.1: each other trap, at the last that may be and one past it; it leaves the state.
func TestTraps(t *testing.T) {
	times := func(n int, statement string) string {
		return fmt.Sprintf("let k = 0; while k < %d { k = k + 1; %s } ", n, statement)
	}
	half := strings.Repeat("a", 32)
	wantRows(t, "P9.1", []row{
		{"emit \"" + half + "\" & \"" + half + "\";", "done 1 emits " + half + half, nil}, {"emit \"" + half + "\" & \"" + half + "a\";", "trap Long 1", nil},
		{"let x = \"a\"; " + times(6, "x = x & x;") + "emit x;", "done 8 emits " + strings.Repeat("a", 64), nil}, {"let x = \"a\"; " + times(7, "x = x & x;") + "emit x;", "trap Long 8", nil},
		{times(24, "m[k] = k;") + "m[24] = 0; each j in m { del m[j]; }", "done 51", nil}, {times(24, "m[k] = k;") + "m[0] = 0;", "trap Full 26", nil}, {times(25, "m[k] = k;"), "trap Full 26", nil},
		{times(24, "w[str(k)] = \"\";") + "del w[\"3\"]; w[\"x\"] = \"\"; each j in w { del w[j]; }", "done 51", nil},
		{times(11, "emit \"\";") + "emit \"x\";", "done 13 emits " + strings.Repeat(",", 11) + "x", nil}, {times(12, "emit \"\";") + "emit \"x\";", "trap Emits 14", nil},
		{times(11, "after k u();") + "after 1000 v(3);", "done 13 after 1 u() after 2 u() after 3 u() after 4 u() after 5 u() after 6 u() after 7 u() after 8 u() after 9 u() after 10 u() after 11 u() after 1000 v(3)", nil},
		{times(12, "after k u();") + "after 1000 v(3);", "trap Delay 14", nil},
		{"after 0 u();", "trap Delay 1", nil}, {"after 1 u();", "done 1 after 1 u()", nil}, {"after 1000 u();", "done 1 after 1000 u()", nil}, {"after 1001 u();", "trap Delay 1", nil}, {"after -1 u();", "trap Delay 1", nil}, {"after 4294967297 u();", "trap Delay 1", nil}, {"after -9223372036854775808 u();", "trap Delay 1", nil}, {"after 9223372036854775807 u();", "trap Delay 1", nil},
		{times(4, "do ask port(str(k));"), "done 6 asks port(1) asks port(2) asks port(3) asks port(4)", []string{"", "", "", "", ""}}, {times(5, "do ask port(str(k));"), "trap Asks 6 asks port(1) asks port(2) asks port(3) asks port(4)", []string{"", "", "", "", ""}}, {times(5, "do ask port(str(k));"), "trap Asks 6 asks port(1) asks port(2) asks port(3) asks port(4)", []string{"", "", "", ""}},
		{"m[1] = 1; emit \"a\"; after 1 u(); do ask port(\"a\"); emit \"b\"; do 1 / 0;", "trap Zero 1 asks port(a)", []string{""}},
	})
	x := read(t, in("m[1] = 2; emit \"a\"; after 1 u(); do 1 / 0;"))
	c := coded(t, x)
	s := blank(c.Program)
	s.Maps[0] = []api.Entry{{Key: numbered(1), Value: numbered(1)}}
	if got := told(c.Program, runCode(t, c, x, s, api.Event{Name: "e"}, nil, 0)); got != "trap Zero 1 m[1]=1" {
		t.Errorf("P13.2: %s", got)
	}
}

// P13.2: timers that wait already.
func TestTimersThatWait(t *testing.T) {
	x := read(t, in("let k = 0; while k < 3 { k = k + 1; after k v(k); }"))
	c := coded(t, x)
	for _, waiting := range []int{math.MinInt, -1, 0, 8, 9, 10, 11, 12, 13, math.MaxInt} {
		o := runCode(t, c, x, blank(c.Program), api.Event{Name: "e"}, nil, waiting)
		if want := waiting > 9; (o.Trap == api.TrapDelay) != want {
			t.Errorf("P13.2: %d wait: %s", waiting, told(c.Program, o))
		}
	}
}

// P13.2: charges: of the handler, of each call, ahead of each condition, ahead of each next key.
func TestCharges(t *testing.T) {
	wantRows(t, "P13.2", []row{
		{"", "done 1", nil}, {"let a = 1; a = a + 1; m[a] = a; if a == 2 { emit str(a); } after a u();", "done 1 emits 2 after 2 u() m[2]=2", nil},
		{"do i(1);", "done 2 emits 1", nil}, {"do i(i(i(1)));", "done 4 emits 1,1,1", nil}, {"do i(1) + i(2);", "done 3 emits 1,2", nil}, {"do down(0);", "done 2", nil}, {"do down(5);", "done 7", nil},
		{"while false { }", "done 2", nil}, {"let a = 0; while a < 5 { a = a + 1; }", "done 7", nil}, {"while true { break; }", "done 2", nil}, {"each k in m { }", "done 2", nil}, {"m[1] = 1; each k in m { del m[k]; }", "done 3", nil},
		{"let a = 0; while a < 5 { a = a + 1; continue; }", "done 7", nil}, {"m[1] = 1; each k in m { del m[k]; break; }", "done 2", nil},
		// A condition's own charges come behind the loop's, arguments' ahead of the call's.
		{"do far(i(1));", "done 4 emits 1", nil}, {"while i(0) == 1 { }", "done 3 emits 0", nil},
		{"do far(1 / 0);", "trap Zero 1", nil}, {"while 1 / 0 == 1 { }", "trap Zero 2", nil}, {"do far(far(12));", "trap Depth 13", nil}, {"do far(len(ask port(\"a\")));", "waits 1 asks port(a)", nil}, {"while ask port(\"a\") == \"\" { }", "waits 2 asks port(a)", nil},
	})
	// As many as there may be, by calls, and one more.
	x := read(t, in("let k = 0; while k < len(w[\"a\"]) { k = k + 1; do down(4); } do down(len(w[\"b\"]));"))
	c := coded(t, x)
	for _, r := range []struct{ rounds, depth, fuel int }{{64, 11, 398}, {64, 0, 387}, {63, 11, 392}} {
		s := blank(c.Program)
		s.Maps[2] = []api.Entry{{Key: texted("a"), Value: texted(strings.Repeat("x", r.rounds))}, {Key: texted("b"), Value: texted(strings.Repeat("x", r.depth))}}
		// One of the handler, rounds + 1 of the loop, 5 of each call of 4, depth + 1 of the last one.
		if o := runCode(t, c, x, s, api.Event{Name: "e"}, nil, 0); o.Fuel != r.fuel || o.End != api.Done {
			t.Errorf("P13.2: %v: %s", r, told(c.Program, o))
		}
	}
	for extra := range 6 {
		statements := "let k = 0; while k < 64 { k = k + 1; do down(4); } do down(11); " + strings.Repeat("do down(0); ", extra) + "m[0] = 1;"
		want := fmt.Sprintf("done %d m[0]=1", 398+extra)
		if extra > 2 {
			want = "trap Fuel 400"
		}
		wantRows(t, "P13.2", []row{{statements, want, nil}})
	}
}

// P13.2: calls that are open: of one function, of several, of arguments, which are closed by then.
func TestDepth(t *testing.T) {
	wantRows(t, "P13.2", []row{
		{"do down(11);", "done 13", nil}, {"do down(12);", "trap Depth 13", nil}, {"do down(100);", "trap Depth 13", nil},
		{"m[0] = far(11);", "done 13 m[0]=11", nil}, {"m[0] = far(12);", "trap Depth 13", nil},
		{"m[0] = far(far(far(11)));", "done 37 m[0]=11", nil}, {"m[0] = far(11) + far(11);", "done 25 m[0]=22", nil}, {"do down(11); do down(11); do down(11);", "done 37", nil},
		{"do four(far(11), far(11), far(11), far(11));", "done 50", nil},
	})
	// Functions that call one another: f0 calls f1 and so on.
	for count := 11; count <= 14; count++ {
		var source strings.Builder
		for i := range count - 1 {
			fmt.Fprintf(&source, "fn f%d() -> int { return 1 + f%d(); } ", i, i+1)
		}
		fmt.Fprintf(&source, "fn f%d() -> int { return 1; } map m: int -> int; on e() { m[0] = f0(); }", count-1)
		x := read(t, source.String())
		c := coded(t, x)
		want := fmt.Sprintf("done %d m[0]=%d", count+1, count)
		if count > 12 {
			want = "trap Depth 13"
		}
		if got := told(c.Program, runCode(t, c, x, blank(c.Program), api.Event{Name: "e"}, nil, 0)); got != want {
			t.Errorf("P13.2: %d functions: %s, want %s", count, got, want)
		}
	}
}

// P13.2, P13.3: requests without an answer, and the same run with more answers.
func TestAsks(t *testing.T) {
	x := read(t, in(`m[1] = 1; emit "a"; let a = ask port("1" & s("x")); m[2] = len(a); let c = "-"; while c != a { c = ask other(a & c); emit c; } w["a"] = a & c; after 1 v(len(ask port(c)));`))
	c := coded(t, x)
	given := []string{"u", "v", "u", "wxyz", "more", "and more"}
	for n, want := range []string{
		`waits 2 asks port(1x)`,
		`waits 3 asks port(1x) asks other(u-)`,
		`waits 4 asks port(1x) asks other(u-) asks other(uv)`,
		`waits 5 asks port(1x) asks other(u-) asks other(uv) asks port(u)`,
		`done 5 emits a,x,v,u asks port(1x) asks other(u-) asks other(uv) asks port(u) after 1 v(4) m[1]=1 m[2]=1 w["a"]="uu"`,
		`done 5 emits a,x,v,u asks port(1x) asks other(u-) asks other(uv) asks port(u) after 1 v(4) m[1]=1 m[2]=1 w["a"]="uu"`,
		`done 5 emits a,x,v,u asks port(1x) asks other(u-) asks other(uv) asks port(u) after 1 v(4) m[1]=1 m[2]=1 w["a"]="uu"`,
	} {
		if got := told(c.Program, runCode(t, c, x, blank(c.Program), api.Event{Name: "e"}, given[:n], 0)); got != want {
			t.Errorf("P13.3: %d answers: %s, want %s", n, got, want)
		}
	}
	for _, length := range []int{63, 64, 65, 100} {
		answer := strings.Repeat("y", length)
		want := "done 1 emits " + strconv.Itoa(length) + " asks port(q)"
		if length > 64 {
			want = "trap Long 1 asks port(q)"
		}
		wantRows(t, "P13.2", []row{{`emit str(len(ask port("q")));`, want, []string{answer, strings.Repeat("z", 99)}}})
	}
}
