package lower_test

import (
	"fmt"
	"strings"
	"testing"

	"windlass/api"
)

// P13.2: `while`, its condition each time anew.
func TestWhile(t *testing.T) {
	wantRows(t, "P13.2", []row{
		{"while false { emit \"a\"; }", "done 2", nil},
		{"let a = 0; while a < 3 { emit str(a); a = a + 1; } emit \"x\";", "done 5 emits 0,1,2,x", nil},
		{"while i(m[0]) < 2 { m[0] = m[0] + 1; }", "done 7 emits 0,1,2 m[0]=2", nil},
		{"let a = 0; while a < 2 { let c = 0; while c < 2 { emit str(a) & str(c); c = c + 1; } a = a + 1; }", "done 10 emits 00,01,10,11", nil},
		{"while true { }", "trap Fuel 400", nil},
		{"while true { m[0] = m[0] + 1; if m[0] == 398 { break; } }", "done 399 m[0]=398", nil},
		{"while true { m[0] = m[0] + 1; if m[0] == 399 { break; } }", "done 400 m[0]=399", nil},
		{"while true { m[0] = m[0] + 1; if m[0] == 400 { break; } }", "trap Fuel 400", nil},
		{"while true { return; }", "done 2", nil},
		{"while true { if true { return; } else { break; } } emit \"a\";", "done 2", nil},
		{"while true { break; } emit \"a\";", "done 2 emits a", nil},
		{"while true { break; emit \"b\"; } emit \"a\";", "done 2 emits a", nil},
		{"let a = true; while a { a = false; continue; } emit \"a\";", "done 3 emits a", nil},
	})
}

// P13.2: `each`: the first key, then always the first one above the last, as the map is then, whatever the body does to the variable.
func TestEach(t *testing.T) {
	some := "m[3] = 0; m[1] = 0; m[5] = 0; "
	wantRows(t, "P13.2", []row{
		{"each k in m { emit str(k); }", "done 2", nil},
		{"each k in m { m[1] = 1; }", "done 2", nil},
		{"each k in m { }", "done 2", nil},
		{some + "each k in m { }", "done 5 m[1]=0 m[3]=0 m[5]=0", nil},
		{some + "each k in m { emit str(k); } emit \"x\";", "done 5 emits 1,3,5,x m[1]=0 m[3]=0 m[5]=0", nil},
		{"w[\"b\"] = \"\"; w[\"\"] = \"\"; w[\"ab\"] = \"\"; w[\"a\"] = \"\"; each k in w { emit \"<\" & k & \">\"; del w[k]; }", "done 6 emits <>,<a>,<ab>,<b>", nil},
		{"m[-9223372036854775808] = 1; m[9223372036854775807] = 2; m[0] = 3; each k in m { emit str(k); del m[k]; }", "done 5 emits -9223372036854775808,0,9223372036854775807", nil},
		// Put ahead of the last key, behind it, at it.
		{some + "each k in m { emit str(k); m[k - 1] = 1; } ", "done 5 emits 1,3,5 m[0]=1 m[1]=0 m[2]=1 m[3]=0 m[4]=1 m[5]=0", nil},
		{some + "each k in m { emit str(k); if k < 7 { m[k + 1] = 1; } }", "done 9 emits 1,2,3,4,5,6,7 m[1]=0 m[2]=1 m[3]=1 m[4]=1 m[5]=1 m[6]=1 m[7]=1", nil},
		{some + "each k in m { m[k] = k; }", "done 5 m[1]=1 m[3]=3 m[5]=5", nil},
		// Taken out: itself, the next one, the last one, one behind, all.
		{some + "each k in m { emit str(k); del m[k]; }", "done 5 emits 1,3,5", nil},
		{some + "each k in m { emit str(k); del m[k + 2]; }", "done 4 emits 1,5 m[1]=0 m[5]=0", nil},
		{some + "each k in m { emit str(k); del m[5]; }", "done 4 emits 1,3 m[1]=0 m[3]=0", nil},
		{some + "each k in m { emit str(k); del m[k - 2]; }", "done 5 emits 1,3,5 m[5]=0", nil},
		{some + "each k in m { emit str(k); del m[1]; del m[3]; del m[5]; }", "done 3 emits 1", nil},
		{some + "each k in m { emit str(k); if k == 1 { m[4] = 4; del m[3]; } }", "done 5 emits 1,4,5 m[1]=0 m[4]=4 m[5]=0", nil},
		{some + "each k in m { emit str(k); if k == 5 { m[9] = 1; m[2] = 1; } }", "done 6 emits 1,3,5,9 m[1]=0 m[2]=1 m[3]=0 m[5]=0 m[9]=1", nil},
		// The body sets the variable.
		{some + "each k in m { emit str(k); k = 100; emit str(k); }", "done 5 emits 1,100,3,100,5,100 m[1]=0 m[3]=0 m[5]=0", nil},
		{some + "each k in m { k = k - 10; emit str(k); }", "done 5 emits -9,-7,-5 m[1]=0 m[3]=0 m[5]=0", nil},
		{some + "each k in m { if k == 3 { k = 1; continue; } emit str(k); k = 4; }", "done 5 emits 1,5 m[1]=0 m[3]=0 m[5]=0", nil},
		{some + "each k in m { while k < 9 { k = k + 3; } emit str(k); if k == 10 { m[k] = k; } }", "done 17 emits 10,9,11,10 m[1]=0 m[3]=0 m[5]=0 m[10]=10", nil},
		{"w[\"a\"] = \"\"; w[\"c\"] = \"\"; each k in w { let d = k; k = \"zz\"; w[d] = k; }", `done 4 w["a"]="zz" w["c"]="zz"`, nil},
		// One in the other, over one map and over two.
		{"m[1] = 0; m[2] = 0; each k in m { each j in m { emit str(k) & str(j); } }", "done 10 emits 11,12,21,22 m[1]=0 m[2]=0", nil},
		{"m[1] = 0; m[2] = 0; each k in m { each j in m { emit str(k) & str(j); k = 7; j = 8; emit str(k) & str(j); } }", "done 10 emits 11,78,72,78,21,78,72,78 m[1]=0 m[2]=0", nil},
		{"m[1] = 0; m[2] = 0; w[\"a\"] = \"\"; w[\"b\"] = \"\"; each k in m { each j in w { emit str(k) & j; del w[j]; } }", "done 8 emits 1a,1b m[1]=0 m[2]=0", nil},
		{"m[1] = 0; m[2] = 0; each k in m { each j in m { } each j in m { break; } }", "done 12 m[1]=0 m[2]=0", nil},
		{"m[1] = 0; m[2] = 0; each k in m { each j in m { continue; } each j in m { return; } }", "done 6 m[1]=0 m[2]=0", nil},
		{"each k in m { do 1 / 0; } each k in w { do 1 / 0; }", "done 3", nil},
		{"m[1] = 0; each k in m { do k / (k - 1); }", "trap Zero 2", nil},
		{"m[1] = 0; m[2] = 0; each k in m { if k == 2 { do ask port(str(k)); } }", "waits 3 asks port(2)", nil},
		// Two, one behind the other, begin each at the first key.
		{some + "each k in m { emit str(k); } each k in m { emit str(k); } each j in m { emit str(j); break; }", "done 10 emits 1,3,5,1,3,5,1 m[1]=0 m[3]=0 m[5]=0", nil},
		{some + "let a = 0; while a < 2 { each k in m { emit str(k); if k == 3 { break; } } a = a + 1; }", "done 8 emits 1,3,1,3 m[1]=0 m[3]=0 m[5]=0", nil},
	})
}

// P13.2: a charge ahead of each next key: also of the one that isn't there, and of the one that traps.
func TestEachFuel(t *testing.T) {
	for _, rounds := range []int{392, 393, 394, 395, 396, 397} {
		x := read(t, in(fmt.Sprintf("let a = 0; while a < %d { a = a + 1; } each k in m { del m[k]; emit str(k); }", rounds)))
		c := coded(t, x)
		s := blank(c.Program)
		for key := range int64(3) {
			s.Maps[0] = append(s.Maps[0], api.Entry{Key: numbered(key), Value: numbered(0)})
		}
		// One charge of the handler, rounds + 1 of the while, 4 of the each.
		want := fmt.Sprintf("done %d emits 0,1,2", rounds+6)
		if rounds+6 > api.MaxFuel {
			want = "trap Fuel 400 m[0]=0 m[1]=0 m[2]=0"
		}
		if got := told(c.Program, runCode(t, c, x, s, api.Event{Name: "e"}, nil, 0)); got != want {
			t.Errorf("P13.2: %d rounds: %s, want %s", rounds, got, want)
		}
	}
}

// P13.2: `break` and `continue`, with labels and without, out of one loop and out of several.
func TestLeaving(t *testing.T) {
	count := func(label, name, body string) string {
		return fmt.Sprintf("let %s = 0; %swhile %s < 3 { %s = %s + 1; %s }", name, label, name, name, name, body)
	}
	for _, r := range []struct{ way, want string }{
		{"", "111,112,113,121,122,123,131,132,133"},
		{"if d == 2 { break; }", "111,121,131"},
		{"if d == 2 { continue; }", "111,113,121,123,131,133"},
		{"if d == 2 { break z; }", "111,121,131"},
		{"if d == 2 { continue z; }", "111,113,121,123,131,133"},
		{"if d == 2 { break y; }", "111"},
		{"if d == 2 { continue y; }", "111,121,131"},
		{"if d == 2 { break x; }", "111"},
		{"if d == 2 { continue x; }", "111"},
		{"if d == 2 { return; }", "111"},
		{"if c == 2 { break; }", "111,112,113,131,132,133"},
		{"if c == 2 and d == 3 { continue y; }", "111,112,113,121,122,131,132,133"},
	} {
		inner := count("z: ", "d", r.way+" emit str(a) & str(c) & str(d);")
		middle := count("y: ", "c", inner)
		got := does(t, "let a = 0; x: while a < 1 { a = a + 1; "+middle+" if a == 9 { emit \"\"; } emit \"E\"; } emit \"X\";")
		want := r.want
		if !strings.Contains(r.way, " x;") && !strings.Contains(r.way, "return") {
			want += ",E"
		}
		if !strings.Contains(r.way, "return") {
			want += ",X"
		}
		if !strings.Contains(got, " emits "+want) || strings.Contains(got, want+",") {
			t.Errorf("P13.2: %s: %s, want %s", r.way, got, want)
		}
	}
	wantRows(t, "P13.2", []row{
		{"x: while true { break x; } emit \"a\";", "done 2 emits a", nil},
		{"m[1] = 0; m[2] = 0; x: each k in m { while true { emit str(k); continue x; } }", "done 6 emits 1,2 m[1]=0 m[2]=0", nil},
		{"m[1] = 0; m[2] = 0; x: each k in m { while true { emit str(k); break x; } }", "done 3 emits 1 m[1]=0 m[2]=0", nil},
		{"m[1] = 0; m[2] = 0; x: each k in m { each j in m { if j == k { continue x; } emit str(k) & str(j); } emit \"e\"; }", "done 7 emits 21 m[1]=0 m[2]=0", nil},
		{"m[1] = 0; m[2] = 0; x: each k in m { y: each j in m { if j == k { continue y; } if k == 2 { break x; } emit str(k) & str(j); } emit \"e\"; }", "done 7 emits 12,e m[1]=0 m[2]=0", nil},
		{"m[1] = 0; m[2] = 0; x: each k in m { y: each j in m { break; } continue; }", "done 6 m[1]=0 m[2]=0", nil},
		{"m[1] = 0; m[2] = 0; x: each k in m { each j in m { continue x; } }", "done 6 m[1]=0 m[2]=0", nil},
		{"m[1] = 0; m[2] = 0; x: each k in m { each j in m { break x; } }", "done 3 m[1]=0 m[2]=0", nil},
		{"x: while true { break; } x: while true { break x; } emit \"a\";", "done 3 emits a", nil},
		{"let a = 0; while a < 4 { a = a + 1; if a == 1 { continue; } else if a == 3 { break; } else { emit str(a); } emit \"e\"; } emit \"x\";", "done 4 emits 2,e,x", nil},
		{"let a = 0; while a < 2 { a = a + 1; if a == 1 { continue; } else { break; } } emit str(a);", "done 3 emits 2", nil},
		{"let a = 0; while true { if a == 2 { break; } else { a = a + 1; continue; } emit \"no\"; } emit str(a);", "done 4 emits 2", nil},
	})
}

// P13.2: `return` from within loops, with a result and without; an end without one.
func TestReturning(t *testing.T) {
	x := read(t, `map m: int -> int; fn f(a: int) -> int { while true { each k in m { if k > a { return k; } } a = a - 1; if a < -9 { return -1; } } return 0; } fn g(a: int) { l: each k in m { each j in m { if j == a { return; } m[j] = m[j] + k; } } m[99] = a; }
fn h(a: bool) -> int { if a { return 1; } else { if not a { return 2; } return 3; } } fn k(a: int) -> int { while a > 0 { while a > 0 { while a > 0 { return a; } } } return 0; } fn l() { } fn n(a: int) { if a == 1 { return; } m[a] = a; }
on e() { m[1] = 0; m[5] = 0; m[10] = f(1); m[11] = f(10); } on z() { m[1] = 0; m[2] = 0; do g(2); do g(9); } on y() { m[0] = h(true); m[1] = h(false); m[2] = k(3); m[3] = k(0); do l(); do n(1); do n(7); return; }`)
	c := coded(t, x)
	for _, r := range []struct{ name, want string }{
		{"e", "done 15 m[1]=0 m[5]=0 m[10]=5 m[11]=10"},
		{"z", "done 15 m[1]=4 m[2]=3 m[99]=9"},
		{"y", "done 12 m[0]=1 m[1]=2 m[2]=3 m[3]=0 m[7]=7"},
	} {
		if got := told(c.Program, runCode(t, c, x, blank(c.Program), api.Event{Name: r.name}, nil, 0)); got != r.want {
			t.Errorf("P13.2: %s: %s, want %s", r.name, got, r.want)
		}
	}
}
